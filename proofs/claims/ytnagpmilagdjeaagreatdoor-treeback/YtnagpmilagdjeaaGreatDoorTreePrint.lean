/- tree.Print answers with the tree's text, or its error. -/
import Derived.Test.YtnagpmilagdjeaaGreatDoorTreeLinePr
namespace Go.Proofs.YtnagpmilagdjeaaGreatDoor
open Go.RowKit

/-- What Print answers. -/
def TPrinted (ps : List PK) (w : World) (e : Ending) (w' : World) : Prop :=
  ∃ s : ByteArray, e = .returned (.tuple #[.string s, .int .i64 (chkT ps)]) ∧ (chkT ps = 0 → s.data.toList = textT ps) ∧ Keep w w'
theorem isBuilder_keep {T e : TypeId} {B b : Nat} {bs : List Value} {w w' : World} (h : Lib.IsBuilder T e B b bs w) (k : Keep w w') : Lib.IsBuilder T e B b bs w' := by
  have key : ∀ p, Lib.BuilderAt T e B b p bs w → Lib.BuilderAt T e B b p bs w' := by
    rintro p ⟨h1, v, h2, h3, h4⟩
    refine ⟨h1, v, ?_, owns_keep h3 k, h4⟩
    rw [k.block b (Array.getElem?_eq_some_iff.1 h2).1]; exact h2
  exact h.imp (key _) (key _)
theorem textT_take {ps : List PK} {j : Nat} (h : j < ps.length) : textT (ps.take (j + 1)) = textT (ps.take j) ++ lineL ps[j] ++ [10] := by
  rw [List.take_succ_eq_append_getElem h, textT_app]
  show textT (ps.take j) ++ (lineL ps[j] ++ 10 :: []) = _
  simp
theorem line_len {p : PK} (h : chkP p = 0) : (lineL p).length ≤ 3000 := by
  obtain ⟨hn, ⟨hv1, hv2, hs1, hs2⟩, hf, -, hc⟩ := chkP_get h
  have h1 := nameB_le hn
  have h2 := join_two hf
  have h3 := (text_short hc).1
  obtain ⟨v, hv⟩ : ∃ k : Nat, p.v = k := ⟨p.v.toNat, by omega⟩
  obtain ⟨sl, hsl⟩ : ∃ k : Nat, p.sl = k := ⟨p.sl.toNat, by omega⟩
  have h4 := dec_len (i := v) (by omega)
  have h5 := dec_len (i := sl) (by omega)
  unfold lineL
  rw [hv, hsl, itoa_dec, itoa_dec, gjn_cons, gjn_cons, gjn_cons, gjn_cons, Lib.join_one]
  simp only [List.length_append, List.length_cons]
  omega
theorem text_len8 : ∀ (ps : List PK), (∀ p ∈ ps, chkP p = 0) → (textT ps).length ≤ 3001 * ps.length
  | [], _ => by simp [textT]
  | p :: ps, h => by
    have h1 := line_len (h p (by simp))
    have h2 := text_len8 ps (fun q hq => h q (by simp [hq]))
    show (lineL p ++ 10 :: textT ps).length ≤ _
    simp only [List.length_append, List.length_cons]
    omega

set_option maxHeartbeats 4000000 in
set_option maxRecDepth 100000 in
theorem treePrint_any (S : Nat → Prop) (ps : List PK) (v : Value) (w : World) (hS : ∀ b, S b → b < w.heap.size) (hp : PkgsIs S w ps v) (hs : Signs w) :
    Calls Tryz.prog 20 #[.agg #[v]] w fun e w' => TPrinted ps w e w' := by
  have HP := hid hp
  have HS := hid hs
  obtain ⟨p, cap, rfl, hlen⟩ := hp.len
  clear hp hs
  go_enter Tryz.func20, Tryz.ntmps20
  go_wp2_with fail
  refine at_calls (fun W' => Keep w W' ∧ VarAt w.heap.size 44 (.slice p ps.length cap) W') ⟨Keep.alloc _ _, VarAt.new _ _ _⟩ ?_
  rintro W0 ⟨k0, v0⟩
  refine (treeCheck_any S ps _ W0 (fun b hb => Nat.lt_of_lt_of_le (hS b hb) k0.size) (HP.out.keep hS k0)).mono ?_
  rintro e w1 ⟨rfl, k1⟩
  have K1 := hid (k0.trans k1)
  have V1 := hid (v0.keep k1 v0.facts.2.2)
  clear k0 v0 k1
  obtain ⟨hcv, -, hlv⟩ := V1.out.facts
  by_cases hz : chkT ps = 0
  · have HZ := hid hz
    obtain ⟨h8, hall⟩ := chkT_get hz
    have HALL := hid hall
    rw [hz]
    clear hz hall
    go_wp2_with fail
    refine at_wp (fun W' => Keep w W' ∧ Lib.IsBuilder 105 5 w1.heap.size w1.heap.size (Lib.byteCells []) W' ∧ w1.heap.size ≤ W'.heap.size) ⟨K1.out.alloc' _, Lib.fresh_isBuilder _ _ _, by rw [alloc_size]; omega⟩ ?_
    rintro W2 ⟨k2, b2, hs2⟩
    have K2 := hid k2
    have B2 := hid b2
    have hw1 : w.heap.size ≤ w1.heap.size := K1.out.size
    clear k2 b2 hcv
    go_loopg [16] ps.length (fun gk i wr => ∃ j : Nat, j + gk = ps.length ∧ i = .int .i64 j ∧ Lib.IsBuilder 105 5 w1.heap.size w1.heap.size (Lib.byteCells (textT (ps.take j))) wr ∧ w1.heap.size ≤ wr.heap.size ∧ Keep w wr)
    case atStart => exact ⟨0, by simp, rfl, B2.out, hs2, K2.out⟩
    case round =>
      obtain ⟨j, hj, rfl, hb, hsz, hkp⟩ := hrel
      have HB := hid hb
      have HKP := hid hkp
      clear hb hkp B2 K2
      by_cases hlt : j < ps.length
      · obtain ⟨b, off, cap2, hv2, hb2, -, hrow2⟩ := (HP.out.keep hS HKP.out).get hlt
        cases hv2
        obtain ⟨cs, hcs, hpj⟩ := hrow2 j hlt
        have HTT := hid (textT_take hlt)
        have hcj := HALL.out _ (List.getElem_mem hlt)
        have hll := line_len hcj
        have htl : (textT (ps.take j)).length ≤ 30000 := by
          have h1 := text_len8 (ps.take j) (fun q hq => HALL.out q (List.mem_of_mem_take hq))
          have h2 : (ps.take j).length ≤ 8 := by rw [List.length_take]; omega
          have h3 : 3001 * (ps.take j).length ≤ 3001 * 8 := Nat.mul_le_mul_left _ h2
          omega
        generalize ps[j] = q at hpj HTT hcj hll
        have HPJ := hid hpj
        have HCJ := hid hcj
        obtain ⟨k, a, fl, nt, kids, kp, fp, kc, fc, -, hfl, rfl, -, -⟩ := hpj.spelt
        obtain ⟨c0, c1, c2, c3, c4, c5, c6, c7, c8, c9, c10, c11, c12, c13⟩ := cells14 hcs
        rcases q with ⟨n, v, sl, fs, nd⟩
        simp only at hfl c0 c1 c2 c3
        have hblt : b < wr.heap.size := Nat.lt_of_lt_of_le (hS _ hb2) HKP.out.size
        clear hrow2 hcs hpj hcj
        generalize textT (ps.take j) = tj at HB HTT htl
        go_wp2_with fail
        refine at_calls (fun W' => Keep wr W') (Keep.alloc _ _) ?_
        intro W3 k3
        have hS2 : ∀ b, S b → b < wr.heap.size := fun b hb => Nat.lt_of_lt_of_le (hS b hb) HKP.out.size
        refine (line_any S _ _ W3 (fun b hb => Nat.lt_of_lt_of_le (hS2 b hb) k3.size) (HPJ.out.keep hS2 k3) HCJ.out (HS.out.keep (HKP.out.trans k3))).mono ?_
        rintro e w4 ⟨rfl, k4⟩
        have B4 := hid (isBuilder_keep HB.out (k3.trans k4))
        have K4 := hid (HKP.out.trans (k3.trans k4))
        have hs4 : wr.heap.size ≤ w4.heap.size := (k3.trans k4).size
        have hms : (⟨(lineL ⟨n, v, sl, fs, nd⟩).toArray⟩ : ByteArray).size ≤ 3000 := by rw [mk_size]; exact hll
        clear k3 k4 hS2 c0 c1 c2 c3 c4 c5 c6 c7 c8 c9 c10 c11 c12 c13 HB
        go_wp2_with fail
        refine (wstr w1.heap.size w1.heap.size tj ⟨(lineL ⟨n, v, sl, fs, nd⟩).toArray⟩ w4 B4.out (by omega) (by omega)).mono ?_
        rintro e w5 ⟨rfl, b5, k5⟩
        have B5 : Hid (Lib.IsBuilder 105 5 w1.heap.size w1.heap.size (Lib.byteCells (tj ++ lineL ⟨n, v, sl, fs, nd⟩)) w5) := b5
        have K5 : Hid (Keep w w5) := Below.trans K4.out (Below.mono k5 hw1)
        have hs5 : w4.heap.size ≤ w5.heap.size := k5.size
        clear k5 b5 B4
        go_wp2_with fail
        refine (wstr w1.heap.size w1.heap.size (tj ++ lineL ⟨n, v, sl, fs, nd⟩) ⟨#[10]⟩ w5 B5.out (by rw [List.length_append]; have : (ByteArray.mk #[10]).size = 1 := rfl; omega) (by omega)).mono ?_
        rintro e w6 ⟨rfl, b6, k6⟩
        have B6 : Hid (Lib.IsBuilder 105 5 w1.heap.size w1.heap.size (Lib.byteCells (textT (ps.take (j + 1)))) w6) := by show Lib.IsBuilder _ _ _ _ _ _; rw [HTT.out]; exact b6
        have K6 : Hid (Keep w w6) := Below.trans K5.out (Below.mono k6 hw1)
        have hs6 : w5.heap.size ≤ w6.heap.size := k6.size
        clear k6 b6 B5
        go_wp2_with fail
        go_roundg (ps.length - (j + 1))
        case rel => exact ⟨j + 1, by omega, by go_num, B6.out, by omega, K6.out⟩
        case measure => omega
      · obtain rfl : j = ps.length := by omega
        go_wp2_with fail
        refine (Tryz.Builder_String_any w1.heap.size w1.heap.size _ wr HB.out hsz).mono ?_
        rintro e w9 ⟨rfl, k9⟩
        have K9 : Hid (Keep w w9) := Below.trans HKP.out (Below.mono k9 hw1)
        clear k9
        go_wp2_with fail
        go_ret2
        exact ⟨_, by rw [HZ.out]; rfl, fun _ => by simp, K9.out⟩
  · have hz1 : (chkT ps == 0) = false := by simp [hz]
    have hz2 : (chkT ps != 0) = true := by simp [hz]
    have HZ := hid hz
    clear hz
    go_wp2_with fail
    go_ret2
    exact ⟨_, rfl, fun h => absurd h HZ.out, K1.out⟩
end Go.Proofs.YtnagpmilagdjeaaGreatDoor
