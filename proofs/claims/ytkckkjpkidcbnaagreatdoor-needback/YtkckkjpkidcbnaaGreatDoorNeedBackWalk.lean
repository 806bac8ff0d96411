/- NeedBack returns true, of any two needs that lie in memory and any text, wherever what the program lays is laid; nothing that was there is changed. -/
import Derived.Test.YtkckkjpkidcbnaaGreatDoorNeedNeeded
namespace Go.Proofs.YtkckkjpkidcbnaaGreatDoor
open Go.RowKit

set_option maxHeartbeats 2000000 in
set_option maxRecDepth 100000 in
theorem needBack_walk (t u : NT) (cs1 cs2 : List Value) (s : ByteArray) (w : World) (S : Nat → Prop) (hS : ∀ b, S b → b < w.heap.size) (h1 : NeedIs S w t cs1) (h2 : NeedIs S w u cs2) (hE : Env w) (hM : MaxAt w) :
    Calls Tryz.prog 4 #[.agg cs1.toArray, .agg cs2.toArray, .string s] w fun e w' => e = .returned (.bool true) ∧ Keep w w' := by
  have HE := hid hE
  have HM := hid hM
  have H1 := hid h1
  have H2 := hid h2
  cases ht : t with
  | node k1 a1 fl1 nt1 ks1 =>
  cases hu : u with
  | node k2 a2 fl2 nt2 ks2 =>
  rw [ht, NeedIs] at h1
  rw [hu, NeedIs] at h2
  obtain ⟨kp1, kc1, rfl, -, -, -⟩ := h1
  obtain ⟨kp2, kc2, rfl, -, -, -⟩ := h2
  have K0 := hid ((Keep.alloc w (.cells #[.int .i64 k1, .string a1.n, .int .i64 a1.op, .int .i64 a1.v, .int .i64 a1.sl, .string a1.f, .bool a1.on, .string fl1, .bool nt1, .slice kp1 ks1.length kc1] 26)).alloc' (.cells #[.int .i64 k2, .string a2.n, .int .i64 a2.op, .int .i64 a2.v, .int .i64 a2.sl, .string a2.f, .bool a2.on, .string fl2, .bool nt2, .slice kp2 ks2.length kc2] 26))
  have b10 := NBox.new w #[.int .i64 k1, .string a1.n, .int .i64 a1.op, .int .i64 a1.v, .int .i64 a1.sl, .string a1.f, .bool a1.on, .string fl1, .bool nt1, .slice kp1 ks1.length kc1]
  have B10 := hid (b10.keep (Keep.alloc (w.alloc (.cells #[.int .i64 k1, .string a1.n, .int .i64 a1.op, .int .i64 a1.v, .int .i64 a1.sl, .string a1.f, .bool a1.on, .string fl1, .bool nt1, .slice kp1 ks1.length kc1] 26)) (.cells #[.int .i64 k2, .string a2.n, .int .i64 a2.op, .int .i64 a2.v, .int .i64 a2.sl, .string a2.f, .bool a2.on, .string fl2, .bool nt2, .slice kp2 ks2.length kc2] 26)) b10.facts.2.2)
  have b20 := NBox.new (w.alloc (.cells #[.int .i64 k1, .string a1.n, .int .i64 a1.op, .int .i64 a1.v, .int .i64 a1.sl, .string a1.f, .bool a1.on, .string fl1, .bool nt1, .slice kp1 ks1.length kc1] 26)) #[.int .i64 k2, .string a2.n, .int .i64 a2.op, .int .i64 a2.v, .int .i64 a2.sl, .string a2.f, .bool a2.on, .string fl2, .bool nt2, .slice kp2 ks2.length kc2]
  rw [alloc_size] at b20
  have B20 := hid b20
  clear ht hu hE hM b10 b20
  go_enter Tryz.func4, Tryz.ntmps4
  go_wp2_with fail
  generalize (w.alloc (.cells #[.int .i64 k1, .string a1.n, .int .i64 a1.op, .int .i64 a1.v, .int .i64 a1.sl, .string a1.f, .bool a1.on, .string fl1, .bool nt1, .slice kp1 ks1.length kc1] 26)).alloc (.cells #[.int .i64 k2, .string a2.n, .int .i64 a2.op, .int .i64 a2.v, .int .i64 a2.sl, .string a2.f, .bool a2.on, .string fl2, .bool nt2, .slice kp2 ks2.length kc2] 26) = W0 at K0 B10 B20 ⊢
  refine (needPrint_any t _ W0 S (fun b hb => Nat.lt_of_lt_of_le (hS b hb) K0.out.size) (H1.out.keep hS K0.out) (HE.out.keep K0.out).1).mono ?_
  rintro e w1 ⟨s1, rfl, hs1, -, k1⟩
  have K1 := hid (K0.out.trans k1)
  have B11 := hid (B10.out.keep k1 B10.out.facts.2.2)
  have B21 := hid (B20.out.keep k1 B20.out.facts.2.2)
  have HS1 := hid hs1
  obtain ⟨hcb, -, hlb⟩ := B21.out.facts
  clear hs1 k1 B10 B20 K0
  generalize hc1 : chkN t = c1
  have HC1' : Hid (chkN t = c1) := hc1
  clear hc1
  go_wp2_with fail
  refine (needPrint_any u _ w1 S (fun b hb => Nat.lt_of_lt_of_le (hS b hb) K1.out.size) (H2.out.keep hS K1.out) (HE.out.keep K1.out).1).mono ?_
  rintro e w2 ⟨s2, rfl, hs2, -, k2⟩
  have K2 := hid (K1.out.trans k2)
  have B12 := hid (B11.out.keep k2 B11.out.facts.2.2)
  have B22 := hid (B21.out.keep k2 B21.out.facts.2.2)
  have HS2 := hid hs2
  clear hs2 k2 B11 B21 K1 hcb
  generalize hc2 : chkN u = c2
  have HC2' : Hid (chkN u = c2) := hc2
  clear hc2
  go_wp2_with fail
  refine (needed_any w2 (HE.out.keep K2.out) (HM.out.keep K2.out)).mono ?_
  rintro e WM ⟨rfl, k3⟩
  have KM := hid (K2.out.trans k3)
  have BM := hid (B12.out.keep k3 B12.out.facts.2.2)
  have BN := hid (B22.out.keep k3 B22.out.facts.2.2)
  clear k3 B12 B22 K2
  obtain ⟨hcm, -, hlm⟩ := BM.out.facts
  obtain ⟨hcn, -, hln⟩ := BN.out.facts
  by_cases hz1 : c1 = 0
  · subst hz1
    have HC1 : Hid (chkN t = 0) := HC1'
    by_cases hz2 : c2 = 0
    · subst hz2
      have HC2 : Hid (chkN u = 0) := HC2'
      have hsm := small_of (chkN_zero.1 HC1.out).1
      have HSAME0 := hid (needSame_any t u _ _ WM S (fun b hb => Nat.lt_of_lt_of_le (hS b hb) KM.out.size) (H1.out.keep hS KM.out) (H2.out.keep hS KM.out) (by omega))
      clear hsm
      go_wp2_with fail
      refine HSAME0.out.mono ?_
      rintro e w4 ⟨⟨b4, rfl, hb4⟩, k4⟩
      have hbs : (s1.toList == s2.toList) = b4 := by
        rw [Lib.toList_data, Lib.toList_data, HS1.out HC1.out, HS2.out HC2.out]
        cases b4 with
        | true => rw [hb4.1 rfl]; simp
        | false =>
          simp only [beq_eq_false_iff_ne, ne_eq]
          intro e
          have := hb4.2 (needText_inj HC1.out HC2.out e)
          cases this
      have KM2 := hid (KM.out.trans k4)
      have BM2 := hid (BM.out.keep k4 BM.out.facts.2.2)
      clear hb4 k4 hcm hcn BN KM BM HSAME0
      have hbb : (b4 != b4) = false := by simp
      go_upto_region 5 with fail
      have HT3 : Hid (s1.data.toList = t.text) := HS1.out HC1.out
      obtain ⟨hcb1, -, hlb1⟩ := BM2.out.facts
      go_wp2_with fail
      refine (needParse_any s1 w4 (HE.out.keep KM2.out) (HM.out.keep KM2.out)).mono ?_
      rintro e wp ⟨cs8, rfl, hp8, -, kk8⟩
      rw [HT3.out] at hp8 ⊢
      obtain ⟨x, hx1, hnx⟩ := hp8 (rdE_text HC1.out).1
      obtain rfl : x = t := Option.some.inj (hx1.symm.trans (rdE_text HC1.out).2)
      rw [(rdE_text HC1.out).1]
      have HNX := hid hnx
      clear hp8 hx1
      cases hxx : x with
      | node k8 a8 fl8 nt8 ks8 =>
      rw [hxx, NeedIs] at hnx
      obtain ⟨kp8, kc8, rfl, -, -, -⟩ := hnx
      have B8a := BM2.out.keep kk8 BM2.out.facts.2.2
      have K8 := hid ((KM2.out.trans kk8).alloc' (.cells #[.int .i64 k8, .string a8.n, .int .i64 a8.op, .int .i64 a8.v, .int .i64 a8.sl, .string a8.f, .bool a8.on, .string fl8, .bool nt8, .slice kp8 ks8.length kc8] 26))
      have B8 := hid (B8a.keep (Keep.alloc wp (.cells #[.int .i64 k8, .string a8.n, .int .i64 a8.op, .int .i64 a8.v, .int .i64 a8.sl, .string a8.f, .bool a8.on, .string fl8, .bool nt8, .slice kp8 ks8.length kc8] 26)) B8a.facts.2.2)
      have C8 : Hid (NBox wp.heap.size #[.int .i64 k8, .string a8.n, .int .i64 a8.op, .int .i64 a8.v, .int .i64 a8.sl, .string a8.f, .bool a8.on, .string fl8, .bool nt8, .slice kp8 ks8.length kc8] (wp.alloc (.cells #[.int .i64 k8, .string a8.n, .int .i64 a8.op, .int .i64 a8.v, .int .i64 a8.sl, .string a8.f, .bool a8.on, .string fl8, .bool nt8, .slice kp8 ks8.length kc8] 26))) := NBox.new _ _
      have N8 := hid (HNX.out.keep (fun b hb => hb.2) (Keep.alloc wp (.cells #[.int .i64 k8, .string a8.n, .int .i64 a8.op, .int .i64 a8.v, .int .i64 a8.sl, .string a8.f, .bool a8.on, .string fl8, .bool nt8, .slice kp8 ks8.length kc8] 26)))
      have hs8 := hid (alloc_size wp (.cells #[.int .i64 k8, .string a8.n, .int .i64 a8.op, .int .i64 a8.v, .int .i64 a8.sl, .string a8.f, .bool a8.on, .string fl8, .bool nt8, .slice kp8 ks8.length kc8] 26))
      have hk8 := hid kk8.size
      clear hxx kk8 B8a hcb1
      go_upto_region 7 with fail
      generalize wp.alloc (.cells #[.int .i64 k8, .string a8.n, .int .i64 a8.op, .int .i64 a8.v, .int .i64 a8.sl, .string a8.f, .bool a8.on, .string fl8, .bool nt8, .slice kp8 ks8.length kc8] 26) = W8 at K8 B8 C8 N8 hs8 ⊢
      obtain ⟨hcb8, -, hlb8⟩ := B8.out.facts
      obtain ⟨hcc8, -, hlc8⟩ := C8.out.facts
      have hsum : ∀ b, (S b ∨ (w4.heap.size ≤ b ∧ b < wp.heap.size)) → b < W8.heap.size := fun b hb => by
        rcases hb with hb | hb
        · exact Nat.lt_of_lt_of_le (hS b hb) K8.out.size
        · have := hs8.out; omega
      have hsm := small_of (chkN_zero.1 HC1.out).1
      have HSAME := hid (needSame_any x x _ _ W8 (fun b => S b ∨ (w4.heap.size ≤ b ∧ b < wp.heap.size)) hsum (NeedIs.mono (fun _ _ => rfl) (fun b hb => Or.inr hb) _ _ N8.out) (NeedIs.mono (fun _ _ => rfl) (fun b hb => Or.inl hb) _ _ (H1.out.keep hS K8.out)) (by omega))
      clear hsum hsm
      go_wp2_with fail
      refine HSAME.out.mono ?_
      rintro e w8 ⟨⟨b8, rfl, hb8⟩, kk8⟩
      obtain rfl : b8 = true := hb8.2 (by trivial)
      have KL := hid (K8.out.trans kk8)
      clear hb8 kk8 hcb8 hcc8
      go_wp2_with fail
      refine (needParse_any s w8 (HE.out.keep KL.out) (HM.out.keep KL.out)).mono ?_
      rintro e wp ⟨cs9, rfl, hp9, hp9', kk9⟩
      by_cases hz9 : rdE s.data.toList = 0
      · obtain ⟨y, hy1, hny⟩ := hp9 hz9
        obtain ⟨y', hy2, hyc, hyt⟩ := rdE_zero hz9
        obtain rfl : y = y' := Option.some.inj (hy1.symm.trans hy2)
        have HNY := hid hny
        have HYC := hid hyc
        have HYT := hid hyt
        cases hyy : y with
        | node k9 a9 fl9 nt9 ks9 =>
        rw [hyy, NeedIs] at hny
        obtain ⟨kp9, kc9, rfl, -, -, -⟩ := hny
        have K9 := hid ((KL.out.trans kk9).alloc' (.cells #[.int .i64 k9, .string a9.n, .int .i64 a9.op, .int .i64 a9.v, .int .i64 a9.sl, .string a9.f, .bool a9.on, .string fl9, .bool nt9, .slice kp9 ks9.length kc9] 26))
        have N9 := hid (HNY.out.keep (fun b hb => hb.2) (Keep.alloc wp (.cells #[.int .i64 k9, .string a9.n, .int .i64 a9.op, .int .i64 a9.v, .int .i64 a9.sl, .string a9.f, .bool a9.on, .string fl9, .bool nt9, .slice kp9 ks9.length kc9] 26)))
        have hs9 := hid (alloc_size wp (.cells #[.int .i64 k9, .string a9.n, .int .i64 a9.op, .int .i64 a9.v, .int .i64 a9.sl, .string a9.f, .bool a9.on, .string fl9, .bool nt9, .slice kp9 ks9.length kc9] 26))
        rw [hz9]
        clear hp9 hp9' hz9 hy1 hy2 hyc hyt kk9 hyy
        go_wp2_with fail
        generalize wp.alloc (.cells #[.int .i64 k9, .string a9.n, .int .i64 a9.op, .int .i64 a9.v, .int .i64 a9.sl, .string a9.f, .bool a9.on, .string fl9, .bool nt9, .slice kp9 ks9.length kc9] 26) = W9 at K9 N9 hs9 ⊢
        refine (needPrint_any y _ W9 _ (fun b hb => by have := hs9.out; omega) N9.out (HE.out.keep K9.out).1).mono ?_
        rintro e wq ⟨sq, rfl, hq1, -, kq⟩
        have hq2 := hq1 HYC.out
        rw [HYT.out] at hq2
        rw [HYC.out]
        have hss : (sq.toList == s.toList) = true := by rw [Lib.toList_data, Lib.toList_data, hq2]; simp
        have KQ := hid (K9.out.trans kq)
        clear hq1 hq2 kq
        go_wp2_with fail
        go_ret
        exact ⟨rfl, KQ.out⟩
      · have hz9' : (rdE s.data.toList == 0) = false := by simpa using hz9
        have hcs := hp9' hz9
        subst hcs
        unfold zeroL
        have KQ := hid (KL.out.trans kk9)
        clear hp9 hp9' hz9 kk9
        go_wp2_with fail
        go_ret
        exact ⟨rfl, KQ.out.alloc' _⟩
    · have hz2' : (c2 == 0) = false := by simpa using hz2
      clear hz2 hcn BN
      go_upto_region 5 with fail
      have HT3 : Hid (s1.data.toList = t.text) := HS1.out HC1.out
      obtain ⟨hcb1, -, hlb1⟩ := BM.out.facts
      go_wp2_with fail
      refine (needParse_any s1 WM (HE.out.keep KM.out) (HM.out.keep KM.out)).mono ?_
      rintro e wp ⟨cs8, rfl, hp8, -, kk8⟩
      rw [HT3.out] at hp8 ⊢
      obtain ⟨x, hx1, hnx⟩ := hp8 (rdE_text HC1.out).1
      obtain rfl : x = t := Option.some.inj (hx1.symm.trans (rdE_text HC1.out).2)
      rw [(rdE_text HC1.out).1]
      have HNX := hid hnx
      clear hp8 hx1
      cases hxx : x with
      | node k8 a8 fl8 nt8 ks8 =>
      rw [hxx, NeedIs] at hnx
      obtain ⟨kp8, kc8, rfl, -, -, -⟩ := hnx
      have B8a := BM.out.keep kk8 BM.out.facts.2.2
      have K8 := hid ((KM.out.trans kk8).alloc' (.cells #[.int .i64 k8, .string a8.n, .int .i64 a8.op, .int .i64 a8.v, .int .i64 a8.sl, .string a8.f, .bool a8.on, .string fl8, .bool nt8, .slice kp8 ks8.length kc8] 26))
      have B8 := hid (B8a.keep (Keep.alloc wp (.cells #[.int .i64 k8, .string a8.n, .int .i64 a8.op, .int .i64 a8.v, .int .i64 a8.sl, .string a8.f, .bool a8.on, .string fl8, .bool nt8, .slice kp8 ks8.length kc8] 26)) B8a.facts.2.2)
      have C8 : Hid (NBox wp.heap.size #[.int .i64 k8, .string a8.n, .int .i64 a8.op, .int .i64 a8.v, .int .i64 a8.sl, .string a8.f, .bool a8.on, .string fl8, .bool nt8, .slice kp8 ks8.length kc8] (wp.alloc (.cells #[.int .i64 k8, .string a8.n, .int .i64 a8.op, .int .i64 a8.v, .int .i64 a8.sl, .string a8.f, .bool a8.on, .string fl8, .bool nt8, .slice kp8 ks8.length kc8] 26))) := NBox.new _ _
      have N8 := hid (HNX.out.keep (fun b hb => hb.2) (Keep.alloc wp (.cells #[.int .i64 k8, .string a8.n, .int .i64 a8.op, .int .i64 a8.v, .int .i64 a8.sl, .string a8.f, .bool a8.on, .string fl8, .bool nt8, .slice kp8 ks8.length kc8] 26)))
      have hs8 := hid (alloc_size wp (.cells #[.int .i64 k8, .string a8.n, .int .i64 a8.op, .int .i64 a8.v, .int .i64 a8.sl, .string a8.f, .bool a8.on, .string fl8, .bool nt8, .slice kp8 ks8.length kc8] 26))
      have hk8 := hid kk8.size
      clear hxx kk8 B8a hcb1
      go_upto_region 7 with fail
      generalize wp.alloc (.cells #[.int .i64 k8, .string a8.n, .int .i64 a8.op, .int .i64 a8.v, .int .i64 a8.sl, .string a8.f, .bool a8.on, .string fl8, .bool nt8, .slice kp8 ks8.length kc8] 26) = W8 at K8 B8 C8 N8 hs8 ⊢
      obtain ⟨hcb8, -, hlb8⟩ := B8.out.facts
      obtain ⟨hcc8, -, hlc8⟩ := C8.out.facts
      have hsum : ∀ b, (S b ∨ (WM.heap.size ≤ b ∧ b < wp.heap.size)) → b < W8.heap.size := fun b hb => by
        rcases hb with hb | hb
        · exact Nat.lt_of_lt_of_le (hS b hb) K8.out.size
        · have := hs8.out; omega
      have hsm := small_of (chkN_zero.1 HC1.out).1
      have HSAME := hid (needSame_any x x _ _ W8 (fun b => S b ∨ (WM.heap.size ≤ b ∧ b < wp.heap.size)) hsum (NeedIs.mono (fun _ _ => rfl) (fun b hb => Or.inr hb) _ _ N8.out) (NeedIs.mono (fun _ _ => rfl) (fun b hb => Or.inl hb) _ _ (H1.out.keep hS K8.out)) (by omega))
      clear hsum hsm
      go_wp2_with fail
      refine HSAME.out.mono ?_
      rintro e w8 ⟨⟨b8, rfl, hb8⟩, kk8⟩
      obtain rfl : b8 = true := hb8.2 (by trivial)
      have KL := hid (K8.out.trans kk8)
      clear hb8 kk8 hcb8 hcc8
      go_wp2_with fail
      refine (needParse_any s w8 (HE.out.keep KL.out) (HM.out.keep KL.out)).mono ?_
      rintro e wp ⟨cs9, rfl, hp9, hp9', kk9⟩
      by_cases hz9 : rdE s.data.toList = 0
      · obtain ⟨y, hy1, hny⟩ := hp9 hz9
        obtain ⟨y', hy2, hyc, hyt⟩ := rdE_zero hz9
        obtain rfl : y = y' := Option.some.inj (hy1.symm.trans hy2)
        have HNY := hid hny
        have HYC := hid hyc
        have HYT := hid hyt
        cases hyy : y with
        | node k9 a9 fl9 nt9 ks9 =>
        rw [hyy, NeedIs] at hny
        obtain ⟨kp9, kc9, rfl, -, -, -⟩ := hny
        have K9 := hid ((KL.out.trans kk9).alloc' (.cells #[.int .i64 k9, .string a9.n, .int .i64 a9.op, .int .i64 a9.v, .int .i64 a9.sl, .string a9.f, .bool a9.on, .string fl9, .bool nt9, .slice kp9 ks9.length kc9] 26))
        have N9 := hid (HNY.out.keep (fun b hb => hb.2) (Keep.alloc wp (.cells #[.int .i64 k9, .string a9.n, .int .i64 a9.op, .int .i64 a9.v, .int .i64 a9.sl, .string a9.f, .bool a9.on, .string fl9, .bool nt9, .slice kp9 ks9.length kc9] 26)))
        have hs9 := hid (alloc_size wp (.cells #[.int .i64 k9, .string a9.n, .int .i64 a9.op, .int .i64 a9.v, .int .i64 a9.sl, .string a9.f, .bool a9.on, .string fl9, .bool nt9, .slice kp9 ks9.length kc9] 26))
        rw [hz9]
        clear hp9 hp9' hz9 hy1 hy2 hyc hyt kk9 hyy
        go_wp2_with fail
        generalize wp.alloc (.cells #[.int .i64 k9, .string a9.n, .int .i64 a9.op, .int .i64 a9.v, .int .i64 a9.sl, .string a9.f, .bool a9.on, .string fl9, .bool nt9, .slice kp9 ks9.length kc9] 26) = W9 at K9 N9 hs9 ⊢
        refine (needPrint_any y _ W9 _ (fun b hb => by have := hs9.out; omega) N9.out (HE.out.keep K9.out).1).mono ?_
        rintro e wq ⟨sq, rfl, hq1, -, kq⟩
        have hq2 := hq1 HYC.out
        rw [HYT.out] at hq2
        rw [HYC.out]
        have hss : (sq.toList == s.toList) = true := by rw [Lib.toList_data, Lib.toList_data, hq2]; simp
        have KQ := hid (K9.out.trans kq)
        clear hq1 hq2 kq
        go_wp2_with fail
        go_ret
        exact ⟨rfl, KQ.out⟩
      · have hz9' : (rdE s.data.toList == 0) = false := by simpa using hz9
        have hcs := hp9' hz9
        subst hcs
        unfold zeroL
        have KQ := hid (KL.out.trans kk9)
        clear hp9 hp9' hz9 kk9
        go_wp2_with fail
        go_ret
        exact ⟨rfl, KQ.out.alloc' _⟩
  · have hz1' : (c1 == 0) = false := by simpa using hz1
    clear hz1 hcm hcn BM BN
    have KL := hid KM.out
    go_wp2_with fail
    refine (needParse_any s WM (HE.out.keep KL.out) (HM.out.keep KL.out)).mono ?_
    rintro e wp ⟨cs9, rfl, hp9, hp9', kk9⟩
    by_cases hz9 : rdE s.data.toList = 0
    · obtain ⟨y, hy1, hny⟩ := hp9 hz9
      obtain ⟨y', hy2, hyc, hyt⟩ := rdE_zero hz9
      obtain rfl : y = y' := Option.some.inj (hy1.symm.trans hy2)
      have HNY := hid hny
      have HYC := hid hyc
      have HYT := hid hyt
      cases hyy : y with
      | node k9 a9 fl9 nt9 ks9 =>
      rw [hyy, NeedIs] at hny
      obtain ⟨kp9, kc9, rfl, -, -, -⟩ := hny
      have K9 := hid ((KL.out.trans kk9).alloc' (.cells #[.int .i64 k9, .string a9.n, .int .i64 a9.op, .int .i64 a9.v, .int .i64 a9.sl, .string a9.f, .bool a9.on, .string fl9, .bool nt9, .slice kp9 ks9.length kc9] 26))
      have N9 := hid (HNY.out.keep (fun b hb => hb.2) (Keep.alloc wp (.cells #[.int .i64 k9, .string a9.n, .int .i64 a9.op, .int .i64 a9.v, .int .i64 a9.sl, .string a9.f, .bool a9.on, .string fl9, .bool nt9, .slice kp9 ks9.length kc9] 26)))
      have hs9 := hid (alloc_size wp (.cells #[.int .i64 k9, .string a9.n, .int .i64 a9.op, .int .i64 a9.v, .int .i64 a9.sl, .string a9.f, .bool a9.on, .string fl9, .bool nt9, .slice kp9 ks9.length kc9] 26))
      rw [hz9]
      clear hp9 hp9' hz9 hy1 hy2 hyc hyt kk9 hyy
      go_wp2_with fail
      generalize wp.alloc (.cells #[.int .i64 k9, .string a9.n, .int .i64 a9.op, .int .i64 a9.v, .int .i64 a9.sl, .string a9.f, .bool a9.on, .string fl9, .bool nt9, .slice kp9 ks9.length kc9] 26) = W9 at K9 N9 hs9 ⊢
      refine (needPrint_any y _ W9 _ (fun b hb => by have := hs9.out; omega) N9.out (HE.out.keep K9.out).1).mono ?_
      rintro e wq ⟨sq, rfl, hq1, -, kq⟩
      have hq2 := hq1 HYC.out
      rw [HYT.out] at hq2
      rw [HYC.out]
      have hss : (sq.toList == s.toList) = true := by rw [Lib.toList_data, Lib.toList_data, hq2]; simp
      have KQ := hid (K9.out.trans kq)
      clear hq1 hq2 kq
      go_wp2_with fail
      go_ret
      exact ⟨rfl, KQ.out⟩
    · have hz9' : (rdE s.data.toList == 0) = false := by simpa using hz9
      have hcs := hp9' hz9
      subst hcs
      unfold zeroL
      have KQ := hid (KL.out.trans kk9)
      clear hp9 hp9' hz9 kk9
      go_wp2_with fail
      go_ret
      exact ⟨rfl, KQ.out.alloc' _⟩

end Go.Proofs.YtkckkjpkidcbnaaGreatDoor
