/- R.TreeText answers with the text of a right tree. -/
import Derived.Test.YtkckkjpkidcbnaaGreatDoorTreePrint
import Derived.Test.YtkckkjpkidcbnaaGreatDoorRefNeedText
namespace Go.Proofs.YtkckkjpkidcbnaaGreatDoor
open Go.RowKit

theorem join5b_any (b : Nat) (x0 x1 x2 x3 x4 : ByteArray) (w : World) (h : Boxed b #[.string x0, .string x1, .string x2, .string x3, .string x4] w) (hl : x0.size + x1.size + x2.size + x3.size + x4.size ≤ 100000) :
    Calls Tryz.prog 53 #[.slice (some ⟨b, 0, none⟩) 5 5, .string ⟨#[32]⟩] w fun e w' => e = .returned (.string ⟨(Lib.join [x0.data.toList, x1.data.toList, x2.data.toList, x3.data.toList, x4.data.toList] [32]).toArray⟩) ∧ Keep w w' := by
  obtain ⟨hb, hc⟩ := h
  have e0 := size_list x0
  have e1 := size_list x1
  have e2 := size_list x2
  have e3 := size_list x3
  have e4 := size_list x4
  refine Tryz.strings_Join b 0 5 [x0, x1, x2, x3, x4] ⟨#[32]⟩ w (fun j x hx => ?_) hb (by simp) (by simp) ?_
  · rw [Nat.zero_add, hc j]
    have hj : j < 5 := (List.getElem?_eq_some_iff.1 hx).1
    match j, hj with
    | 0, _ => cases hx; rfl
    | 1, _ => cases hx; rfl
    | 2, _ => cases hx; rfl
    | 3, _ => cases hx; rfl
    | 4, _ => cases hx; rfl
  · show (Lib.join [x0.data.toList, x1.data.toList, x2.data.toList, x3.data.toList, x4.data.toList] [32]).length ≤ _
    rw [gjn_cons, gjn_cons, gjn_cons, gjn_cons, Lib.join_one]
    simp only [List.length_append, List.length_cons]
    omega

theorem add_str (x y : ByteArray) (h : x.size + y.size ≤ 1000000) : Op.stringOp .add x y = pure (.string (x ++ y)) := by
  have e : IntKind.i64.max = 9223372036854775807 := by decide
  unfold Op.stringOp
  simp only [e]
  rw [if_neg (by omega)]

set_option maxHeartbeats 8000000 in
set_option maxRecDepth 100000 in
theorem refTreeText_any (S : Nat → Prop) (ps : List PK) (tv : Value) (w : World) (hS : ∀ b, S b → b < w.heap.size) (hp : PkgsIs S w ps tv) (hE : Env w) (hz : chkT ps = 0) :
    Calls Tryz.prog 28 #[.agg #[tv]] w fun e w' => e = .returned (.string ⟨(textT ps).toArray⟩) ∧ Keep w w' := by
  have HP := hid hp
  have HE := hid hE
  obtain ⟨p, cap, rfl, hlen⟩ := hp.len
  obtain ⟨h8, hall⟩ := chkT_get hz
  have HALL := hid hall
  clear hp hE hz hall
  go_enter Tryz.func28, Tryz.ntmps28
  go_wp2_with fail
  go_loopg [3, 9] ps.length (fun gk sv i wr => ∃ j : Nat, j + gk = ps.length ∧ i = .int .i64 j ∧ ∃ sx : ByteArray, sv = .string sx ∧ sx.data.toList = textT (ps.take j) ∧ Keep w wr)
  case atStart => exact ⟨0, by simp, rfl, ⟨#[]⟩, rfl, by simp [textT], Keep.alloc _ _⟩
  case round =>
    obtain ⟨j, hj, rfl, sx, rfl, hsx, hkp⟩ := hrel
    have HSX := hid hsx
    have HKP := hid hkp
    clear hkp
    by_cases hlt : j < ps.length
    · obtain ⟨b, off, cap2, hv2, hb2, -, hrow2⟩ := (HP.out.keep hS HKP.out).get hlt
      cases hv2
      obtain ⟨cs, hcs, hpj⟩ := hrow2 j hlt
      have HTT := hid (textT_take hlt)
      have hcj := HALL.out _ (List.getElem_mem hlt)
      have hll := line_len hcj
      have htl : sx.size ≤ 30000 := by
        have h0 := size_list sx
        rw [hsx] at h0
        have h1 := text_len8 (ps.take j) (fun q hq => HALL.out q (List.mem_of_mem_take hq))
        have h2 : (ps.take j).length ≤ 8 := by rw [List.length_take]; omega
        have h3 : 3001 * (ps.take j).length ≤ 3001 * 8 := Nat.mul_le_mul_left _ h2
        omega
      clear hsx
      generalize ps[j] = q at hpj HTT hcj hll
      obtain ⟨k, a, fl, nt, kids, kp, fp, kc, fc, hnd, hfl, rfl, hf, hn⟩ := hpj.spelt
      obtain ⟨c0, c1, c2, c3, c4, c5, c6, c7, c8, c9, c10, c11, c12, c13⟩ := cells14 hcs
      obtain ⟨hnm, ⟨hv1, hv2, hs1, hs2⟩, hfs, -, hcn⟩ := chkP_get hcj
      rcases q with ⟨n, v, sl, fs, nd⟩
      simp only at hfl c0 c1 c2 c3 hnm hv1 hv2 hs1 hs2 hfs hcn hf hn
      have HF := hid hf
      have HN := hid hn
      have hjl := join_two hfs
      have hf2 := (chkFs_get hfs).1
      have hnl := nameB_le hnm
      have htl2 := (text_short hcn).1
      have HOK := hid (chkN_zero.1 hcn)
      have hsm : nd.size ≤ 1000 := by have := small_of HOK.out.1; omega
      have HSM := hid hsm
      obtain ⟨v, rfl⟩ : ∃ k : Nat, v = k := ⟨v.toNat, by omega⟩
      obtain ⟨sl, rfl⟩ : ∃ k : Nat, sl = k := ⟨sl.toNat, by omega⟩
      have HLN : Hid (lineL ⟨n, v, sl, fs, nd⟩ = Lib.join [n.data.toList, Lib.decDigits v, Lib.decDigits sl, Lib.join (fs.map (·.data.toList)) [44], nd.text] [32]) := by show _ = _; unfold lineL; rw [itoa_dec, itoa_dec]
      have hdv := dec_len (i := v) (by omega)
      have hds := dec_len (i := sl) (by omega)
      have hblt : b < wr.heap.size := Nat.lt_of_lt_of_le (hS _ hb2) HKP.out.size
      have hSr : ∀ b, S b → b < wr.heap.size := fun b hb => Nat.lt_of_lt_of_le (hS b hb) HKP.out.size
      have HEr := hid (HE.out.keep HKP.out)
      have hdl : (⟨(Lib.decDigits v).toArray⟩ : ByteArray).size ≤ 2 := by rw [mk_size]; exact hdv
      have hdl2 : (⟨(Lib.decDigits sl).toArray⟩ : ByteArray).size ≤ 2 := by rw [mk_size]; exact hds
      have hjl2 : (⟨(Lib.join (fs.map (·.data.toList)) [44]).toArray⟩ : ByteArray).size ≤ 100 := by rw [mk_size]; exact hjl
      have htx2 : (⟨nd.text.toArray⟩ : ByteArray).size ≤ 2200 := by rw [mk_size]; exact htl2
      have hns := size_list n
      have HSZ : Hid (n.size + (⟨(Lib.decDigits v).toArray⟩ : ByteArray).size + (⟨(Lib.decDigits sl).toArray⟩ : ByteArray).size + (⟨(Lib.join (fs.map (·.data.toList)) [44]).toArray⟩ : ByteArray).size + (⟨nd.text.toArray⟩ : ByteArray).size ≤ 100000) := by show _ ≤ _; omega
      have HJL : Hid ((Lib.join (fs.map (·.data.toList)) (ByteArray.mk #[44]).data.toList).length ≤ 140737488355328) := Nat.le_trans hjl (by decide)
      have HL2 : Hid (Lib.join [n.data.toList, (⟨(Lib.decDigits v).toArray⟩ : ByteArray).data.toList, (⟨(Lib.decDigits sl).toArray⟩ : ByteArray).data.toList, (⟨(Lib.join (fs.map (·.data.toList)) [44]).toArray⟩ : ByteArray).data.toList, (⟨nd.text.toArray⟩ : ByteArray).data.toList] [32] = lineL ⟨n, v, sl, fs, nd⟩) := by show _ = _; rw [HLN.out]
      have HLL : Hid ((lineL ⟨n, v, sl, fs, nd⟩).length ≤ 3000) := hll
      clear hrow2 hcs hpj hcj hdl hdl2 hjl2 htx2 hf hn hnm hfs hcn hnd hll hdv hds hjl hsm htl2
      obtain ⟨lx, hlx⟩ : ∃ lx : ByteArray, lx = ⟨(lineL ⟨n, v, sl, fs, nd⟩).toArray⟩ := ⟨_, rfl⟩
      have hms : lx.size ≤ 3000 := by rw [hlx, mk_size]; exact HLL.out
      have hz1 : (lx ++ ⟨#[10]⟩ : ByteArray).size ≤ 3001 := by
        rw [ByteArray.size_append]
        have : (⟨#[10]⟩ : ByteArray).size = 1 := rfl
        omega
      have HD : Hid ((sx ++ (lx ++ ⟨#[10]⟩)).data.toList = textT (ps.take (j + 1))) := by
        show _ = _
        rw [app_bytes, app_bytes, HSX.out, HTT.out, hlx]; simp
      have HLX : Hid ((⟨(lineL ⟨n, v, sl, fs, nd⟩).toArray⟩ : ByteArray) = lx) := hlx.symm
      clear hlx
      have hA1 := add_str lx ⟨#[10]⟩ (by have : (⟨#[10]⟩ : ByteArray).size = 1 := rfl; omega)
      have hA2 := add_str sx (lx ++ ⟨#[10]⟩) (by omega)
      go_upto_region 5 with fail
      refine at_wp (fun W' => Keep wr W' ∧ Boxed wr.heap.size #[.string n, .int .i64 (v : Nat), .int .i64 (sl : Nat), .slice fp fs.length fc, .int .i64 k, .string a.n, .int .i64 a.op, .int .i64 a.v, .int .i64 a.sl, .string a.f, .bool a.on, .string fl, .bool nt, .slice kp kids.length kc] W') ⟨Keep.alloc _ _, Boxed.new _ _ _⟩ ?_
      rintro W2 ⟨k2, b2⟩
      have K2 := hid k2
      have B2 := hid b2
      have B2d := hid (show Boxed wr.heap.size #[.string n, .int .i64 (v : Nat), .int .i64 (sl : Nat), .slice fp fs.length fc, .int .i64 k, .string a.n, .int .i64 a.op, .int .i64 a.v, .int .i64 a.sl, .string a.f, .bool a.on, .string fl, .bool nt, .slice kp kids.length kc] W2.drew from ⟨b2.1, b2.2⟩)
      have K2d : Hid (Keep wr W2.drew) := k2.trans ⟨rfl, rfl, rfl, Nat.le_refl _, fun _ _ => rfl⟩
      clear k2 b2 c0 c1 c2 c3 c4 c5 c6 c7 c8 c9 c10 c11 c12 c13
      go_region_held3 (fun W' => ∀ o, W'.cell? ⟨wr.heap.size, o, none⟩ = (#[.string n, .int .i64 (v : Nat), .int .i64 (sl : Nat), .slice fp fs.length fc, .int .i64 k, .string a.n, .int .i64 a.op, .int .i64 a.v, .int .i64 a.sl, .string a.f, .bool a.on, .string fl, .bool nt, .slice kp kids.length kc] : Array Value)[o]?) (first | with_reducible exact B2.out.cells | with_reducible exact B2d.out.cells | with_reducible exact B2.out.alloc_cells _ | with_reducible exact B2.out.drew_cells _ | go_keep)
        (first
          | (go_at_call 90; refine (Tryz.strconv_Itoa_small _ (by omega) _).mono ?_; rintro e w7 ⟨rfl, hw7⟩; rw [hw7]; clear hw7)
          | (go_at_call 53; (with_reducible show Calls _ _ #[_, .string ⟨#[44]⟩] W2.drew _); refine (joinS_any S fs _ ⟨#[44]⟩ W2.drew (fun b hb => Nat.lt_of_lt_of_le (hSr b hb) K2d.out.size) (HF.out.keep hSr K2d.out) (by omega) HJL.out).mono ?_; rintro e w7 ⟨rfl, k7⟩; have K7 : Hid (Keep W2 w7) := (first_keep k7); have B7 := hid (B2.out.keep K7.out B2.out.1); clear k7 B2; have B2 := B7; clear B7)
          | (go_at_call 18; (with_reducible show Calls _ _ #[_] w7 _); refine (refNeedText_any S nd.size nd (Nat.le_refl _) _ w7 HOK.out.2 HSM.out (fun b hb => Nat.lt_of_lt_of_le (hSr b hb) (K2.out.trans K7.out).size) (HEr.out.keep (K2.out.trans K7.out)) (HN.out.keep hSr (K2.out.trans K7.out))).mono ?_; rintro e w8 ⟨rfl, k8⟩; have K8 := hid (K7.out.trans k8); have B8 := hid (B2.out.keep k8 B2.out.1); clear k8 B2; have B2 := B8; clear B8)
          | (go_at_call 53; (with_reducible show Calls _ _ #[_, .string ⟨#[32]⟩] (w8.alloc _) _); refine (join5b_any _ _ _ _ _ _ (w8.alloc (.cells #[.string n, .string ⟨(Lib.decDigits v).toArray⟩, .string ⟨(Lib.decDigits sl).toArray⟩, .string ⟨(Lib.join (fs.map (·.data.toList)) [44]).toArray⟩, .string ⟨nd.text.toArray⟩] 9)) (Boxed.new _ _ _) HSZ.out).mono ?_; rintro e w9 ⟨rfl, k9⟩; rw [HL2.out, HLX.out]; have K9 : Hid (Keep wr w9) := ((K2.out.trans K8.out).alloc' _).trans k9; have B9 := hid ((B2.out.keep (Keep.alloc _ _) B2.out.1).keep k9 (by rw [alloc_size]; have := B2.out.1; omega)); clear k9 B2; have B2 := B9; clear B9))
      have K10 := hid (HKP.out.trans K9.out)
      go_wp2_with fail
      go_roundg (ps.length - (j + 1))
      case measure => omega
      case rel => exact ⟨j + 1, by omega, by go_num, _, rfl, HD.out, K10.out⟩
    · obtain rfl : j = ps.length := by omega
      have HFIN : Hid (sx.data.toList = textT ps) := by show _ = _; rw [HSX.out, List.take_length]
      go_wp2_with fail
      go_ret
      exact ⟨ret_text HFIN.out, HKP.out⟩
end Go.Proofs.YtkckkjpkidcbnaaGreatDoor
