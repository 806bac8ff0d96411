/- quartermasterref.SameTree finds two trees alike that say the same packages. -/
import Derived.Test.YtkckkjpkidcbnaaGreatDoorTreeForest
import Derived.Test.YtkckkjpkidcbnaaGreatDoorRefSame
namespace Go.Proofs.YtkckkjpkidcbnaaGreatDoor
open Go.RowKit

theorem equalS_any (S : Nat → Prop) (fs : List ByteArray) (v1 v2 : Value) (w : World) (h1 : StrsIs S w fs v1) (h2 : StrsIs S w fs v2) :
    Calls Tryz.prog 19 #[v1, v2] w fun e w' => e = .returned (.bool true) ∧ Keep w w' := by
  by_cases h0 : fs = []
  · obtain ⟨p1, c1, rfl, -⟩ := h1.len
    obtain ⟨p2, c2, rfl, -⟩ := h2.len
    subst h0
    refine (Tryz.slices_Equal_string_empty p1 p2 c1 0 c2 w (by decide)).mono ?_
    rintro e w' ⟨rfl, rfl⟩
    exact ⟨rfl, Keep.refl _⟩
  · have hl : 0 < fs.length := List.length_pos_iff.2 h0
    obtain ⟨b1, o1, c1, rfl, -, hn, hc1⟩ := h1.get hl
    obtain ⟨b2, o2, c2, rfl, -, -, hc2⟩ := h2.get hl
    refine (Tryz.slices_Equal_string b1 o1 fs.length c1 b2 o2 fs.length c2 fs fs w (Nat.le_refl _) (Nat.le_refl _) hn hn (StrsIs.getD hc1) (StrsIs.getD hc2)).mono ?_
    rintro e w' ⟨rfl, q, rfl⟩
    exact ⟨ret_bool (by simp), Keep.drewN (Keep.refl _) _⟩

set_option maxHeartbeats 2000000 in
set_option maxRecDepth 100000 in
theorem same1_any (S : Nat → Prop) (p : PK) (cs1 cs2 : List Value) (w : World) (hS : ∀ b, S b → b < w.heap.size) (h1 : PkgIs S w p cs1) (h2 : PkgIs S w p cs2) :
    Calls Tryz.prog 97 #[.agg cs1.toArray, .agg cs2.toArray] w fun e w' => e = .returned (.bool true) ∧ Keep w w' := by
  obtain ⟨k, a, fl, nt, kids, kp, fp, kc, fc, hnd, hfl, rfl, hf, hn⟩ := h1.spelt
  obtain ⟨k1, a1, fl1, nt1, kids1, kp1, fp1, kc1, fc1, hnd1, -, rfl, hf1, hn1⟩ := h2.spelt
  rw [hnd] at hnd1
  cases hnd1
  clear h1 h2 hnd
  have HF := hid hf
  have HN := hid hn
  have HF1 := hid hf1
  have HN1 := hid hn1
  clear hf hn hf1 hn1
  rcases p with ⟨n, v, sl, fs, nd⟩
  have e1 : (n.toList == n.toList) = true := by simp
  have e2 : (v == v) = true := by simp
  have e3 : (sl == sl) = true := by simp
  go_enter Tryz.func97, Tryz.ntmps97
  go_wp2_with fail
  refine at_calls (fun W' => Keep w W' ∧ Boxed w.heap.size #[.string n, .int .i64 v, .int .i64 sl, .slice fp fs.length fc, .int .i64 k, .string a.n, .int .i64 a.op, .int .i64 a.v, .int .i64 a.sl, .string a.f, .bool a.on, .string fl, .bool nt, .slice kp kids.length kc] W' ∧ Boxed (w.heap.size + 1) #[.string n, .int .i64 v, .int .i64 sl, .slice fp1 fs.length fc1, .int .i64 k, .string a.n, .int .i64 a.op, .int .i64 a.v, .int .i64 a.sl, .string a.f, .bool a.on, .string fl, .bool nt, .slice kp1 kids.length kc1] W') ⟨(Keep.alloc _ _).alloc' _, (Boxed.new _ _ _).keep (Keep.alloc _ _) (by simp), ?_⟩ ?_
  · have := Boxed.new (w.alloc (.cells #[.string n, .int .i64 v, .int .i64 sl, .slice fp fs.length fc, .int .i64 k, .string a.n, .int .i64 a.op, .int .i64 a.v, .int .i64 a.sl, .string a.f, .bool a.on, .string fl, .bool nt, .slice kp kids.length kc] 58)) #[.string n, .int .i64 v, .int .i64 sl, .slice fp1 fs.length fc1, .int .i64 k, .string a.n, .int .i64 a.op, .int .i64 a.v, .int .i64 a.sl, .string a.f, .bool a.on, .string fl, .bool nt, .slice kp1 kids.length kc1] 58
    rw [alloc_size] at this; exact this
  rintro W0 ⟨k0, b0, b1⟩
  refine (equalS_any S fs _ _ W0 (HF.out.keep hS k0) (HF1.out.keep hS k0)).mono ?_
  rintro e w1 ⟨rfl, k1⟩
  have K1 := hid (k0.trans k1)
  have B0 := hid (b0.keep k1 b0.1)
  have B1 := hid (b1.keep k1 b1.1)
  clear k0 k1 b0 b1
  have hc0 := B0.out.2
  have hl0 := B0.out.1
  have hc1 := B1.out.2
  have hl1 := B1.out.1
  go_wp2_with fail
  refine (refSame_any S _ nd (Nat.le_refl _) nd _ _ w1 (fun b hb => Nat.lt_of_lt_of_le (hS b hb) K1.out.size) (HN.out.keep hS K1.out) (HN1.out.keep hS K1.out)).mono ?_
  rintro e w2 ⟨⟨β, rfl, hβ⟩, k2⟩
  obtain rfl := hβ.2 rfl
  have K2 := hid (K1.out.trans k2)
  clear k2 hβ
  go_wp2_with fail
  go_ret
  exact ⟨rfl, K2.out⟩

theorem enter_same1 (args : Array Value) (w : World) : (callFunc 97 args).run Tryz.prog w = .ok (.enter 97 args) w := enters_of Tryz.func97 (by kernel_rfl) rfl args w

set_option maxHeartbeats 2000000 in
set_option maxRecDepth 100000 in
theorem equalF_any (S : Nat → Prop) (ps : List PK) (v1 v2 : Value) (w : World) (hS : ∀ b, S b → b < w.heap.size) (h1 : PkgsIs S w ps v1) (h2 : PkgsIs S w ps v2) :
    Calls Tryz.prog 96 #[v1, v2, .func (.func 97) #[] #[]] w fun e w' => e = .returned (.bool true) ∧ Keep w w' := by
  have H1 := hid h1
  have H2 := hid h2
  obtain ⟨p1, c1, rfl, hlen⟩ := h1.len
  obtain ⟨p2, c2, rfl, -⟩ := h2.len
  have hent := enter_same1
  clear h1 h2
  go_enter Tryz.func96, Tryz.ntmps96
  go_wp2_with fail
  go_loopg [17] ps.length (fun gk i wr => ∃ j : Nat, j + gk = ps.length ∧ i = .int .i64 j ∧ Keep w wr)
  case atStart => exact ⟨0, by simp, rfl, Keep.refl _⟩
  case round =>
    obtain ⟨j, hj, rfl, hkp⟩ := hrel
    have HKP := hid hkp
    clear hkp
    by_cases hlt : j < ps.length
    · obtain ⟨b1, o1, d1, hv1, hb1, -, hrow1⟩ := (H1.out.keep hS HKP.out).get hlt
      obtain ⟨b2, o2, d2, hv2, hb2, -, hrow2⟩ := (H2.out.keep hS HKP.out).get hlt
      cases hv1
      cases hv2
      obtain ⟨cs1, hcs1, hp1⟩ := hrow1 j hlt
      obtain ⟨cs2, hcs2, hp2⟩ := hrow2 j hlt
      generalize ps[j] = q at hp1 hp2
      have HP1 := hid hp1
      have HP2 := hid hp2
      obtain ⟨k, a, fl, nt, kids, kp, fp, kc, fc, hnd, hfl, rfl, -, -⟩ := hp1.spelt
      obtain ⟨k1, a1, fl1, nt1, kids1, kp1, fp1, kc1, fc1, hnd1, -, rfl, -, -⟩ := hp2.spelt
      rw [hnd] at hnd1
      cases hnd1
      obtain ⟨x0, x1, x2, x3, x4, x5, x6, x7, x8, x9, x10, x11, x12, x13⟩ := cells14 hcs1
      obtain ⟨y0, y1, y2, y3, y4, y5, y6, y7, y8, y9, y10, y11, y12, y13⟩ := cells14 hcs2
      rcases q with ⟨n, v, sl, fs, nd⟩
      have hb1' : b1 < wr.heap.size := Nat.lt_of_lt_of_le (hS _ hb1) HKP.out.size
      have hb2' : b2 < wr.heap.size := Nat.lt_of_lt_of_le (hS _ hb2) HKP.out.size
      clear hrow1 hrow2 hcs1 hcs2 hp1 hp2 hnd
      go_wp2_with fail
      refine at_calls (fun W' => Keep wr W') ((Keep.alloc _ _).alloc' _) ?_
      intro W2 k2
      have hS2 : ∀ b, S b → b < wr.heap.size := fun b hb => Nat.lt_of_lt_of_le (hS b hb) HKP.out.size
      refine (same1_any S _ _ _ W2 (fun b hb => Nat.lt_of_lt_of_le (hS2 b hb) k2.size) (HP1.out.keep hS2 k2) (HP2.out.keep hS2 k2)).mono ?_
      rintro e w3 ⟨rfl, k3⟩
      have K3 := hid (HKP.out.trans (k2.trans k3))
      clear k2 k3 hS2
      go_wp2_with fail
      go_roundg (ps.length - (j + 1))
      case rel => exact ⟨j + 1, by omega, by go_num, K3.out⟩
      case measure => omega
    · go_wp2_with fail
      go_ret
      exact ⟨rfl, HKP.out⟩

set_option maxHeartbeats 2000000 in
set_option maxRecDepth 100000 in
theorem sameTree_any (S : Nat → Prop) (ps : List PK) (v1 v2 : Value) (w : World) (hS : ∀ b, S b → b < w.heap.size) (h1 : PkgsIs S w ps v1) (h2 : PkgsIs S w ps v2) :
    Calls Tryz.prog 37 #[.agg #[v1], .agg #[v2]] w fun e w' => e = .returned (.bool true) ∧ Keep w w' := by
  have H1 := hid h1
  have H2 := hid h2
  obtain ⟨p1, c1, rfl, hlen⟩ := h1.len
  obtain ⟨p2, c2, rfl, -⟩ := h2.len
  clear h1 h2
  go_enter Tryz.func37, Tryz.ntmps37
  go_wp2_with fail
  refine at_calls (fun W' => Keep w W') ((Keep.alloc _ _).alloc' _) ?_
  intro W2 k2
  refine (equalF_any S ps _ _ W2 (fun b hb => Nat.lt_of_lt_of_le (hS b hb) k2.size) (H1.out.keep hS k2) (H2.out.keep hS k2)).mono ?_
  rintro e w3 ⟨rfl, k3⟩
  have K3 := hid (k2.trans k3)
  clear k2 k3
  go_wp2_with fail
  go_ret
  exact ⟨rfl, K3.out⟩
end Go.Proofs.YtkckkjpkidcbnaaGreatDoor
