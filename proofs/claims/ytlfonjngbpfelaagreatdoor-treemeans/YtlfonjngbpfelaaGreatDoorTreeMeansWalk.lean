/- The law TreeMeans is true of any tree and any atom. -/
import Derived.Test.YtlfonjngbpfelaaGreatDoorTreeConcat
import Derived.Test.YtlfonjngbpfelaaGreatDoorTreeForest
import Derived.Test.YtlfonjngbpfelaaGreatDoorBoxAt
namespace Go.Proofs.YtlfonjngbpfelaaGreatDoor
open Go.RowKit

theorem IntsAt.apart {c : Nat} {v : Value} {zs : List Int} {w w' : World} (h : IntsAt v zs w) (ha : Apart (One c) w w') (hc : ∀ x, w.cell? ⟨c, 0, none⟩ ≠ some (.int .i64 x)) : IntsAt v zs w' := by
  rcases h with h | ⟨g, cap, h1, h2, h3⟩
  · exact Or.inl h
  · refine Or.inr ⟨g, cap, h1, Nat.lt_of_lt_of_le h2 ha.size, fun j x hx => ?_⟩
    refine (ha.cell ⟨g, j, none⟩ h2 fun e => ?_).trans (h3 j x hx)
    have e' : g = c := e
    subst e'
    cases zs with
    | nil => simp at hx
    | cons z zs => exact hc z (h3 0 z rfl)
theorem sorted_rises {zs ys : List Int} (hp : zs.Perm ys) (hr : ys.Pairwise (· < ·)) : zs.mergeSort (fun x y => decide (x ≤ y)) = ys := by
  refine List.Perm.eq_of_pairwise (le := fun a b : Int => a ≤ b) (fun a b _ _ h1 h2 => by omega) ?_ (hr.imp fun h => by omega) ((List.mergeSort_perm _ _).trans hp)
  exact (List.pairwise_mergeSort (le := fun x y : Int => decide (x ≤ y)) (fun a b c h1 h2 => by simp at *; omega) (fun a b => by simp; omega) zs).imp fun h => by simpa using h

set_option maxHeartbeats 4000000 in
set_option maxRecDepth 100000 in
theorem treeMeans_walk (S : Nat → Prop) (ps : List PK) (v : Value) (an af : ByteArray) (aop av asl : Int) (aon : Bool) (w : World) (hS : ∀ b, S b → b < w.heap.size) (hp : PkgsIs S w ps v) (hE : Env w) (hM : MaxAt w) :
    Calls Tryz.prog 7 #[.agg #[v], .agg #[.string an, .int .i64 aop, .int .i64 av, .int .i64 asl, .string af, .bool aon]] w fun e w' => e = .returned (.bool true) ∧ Keep w w' := by
  have HP := hid hp
  have HE := hid hE
  have HM := hid hM
  obtain ⟨tp, tc, rfl, hlen⟩ := hp.len
  clear hp hE hM
  go_enter Tryz.func7, Tryz.ntmps7
  go_wp2_with fail
  refine at_calls (fun W' => Keep w W' ∧ VarAt w.heap.size 44 (.slice tp ps.length tc) W' ∧ Boxed (w.heap.size + 1) #[.string an, .int .i64 aop, .int .i64 av, .int .i64 asl, .string af, .bool aon] W') ⟨(Keep.alloc _ _).alloc' _, (VarAt.new _ _ _).keep (Keep.alloc _ _) (by simp), ?_⟩ ?_
  · have := Boxed.new (w.alloc (.cells #[.slice tp ps.length tc] 44)) #[.string an, .int .i64 aop, .int .i64 av, .int .i64 asl, .string af, .bool aon] 23
    rw [alloc_size] at this; exact this
  rintro W0 ⟨k0, v0, b0⟩
  refine (means_any S ps _ an af aop av asl aon W0 (fun b hb => Nat.lt_of_lt_of_le (hS b hb) k0.size) (HP.out.keep hS k0)).mono ?_
  rintro e w1 ⟨v1, rfl, hn1, hi1, k1⟩
  have K1 := hid (k0.trans k1)
  have V1 := hid (v0.keep k1 v0.facts.2.2)
  have B1 := hid (b0.keep k1 b0.1)
  clear k0 v0 b0 k1
  by_cases hz : meansE ps ⟨an, aop, av, asl, af, aon⟩ = 0
  · have HZ := hid hz
    have I1 := hid (hi1 hz)
    rw [hz]
    obtain ⟨p1, c1, rfl⟩ := I1.out.len
    clear hn1 hi1 hz
    have hct : chkT ps = 0 := by
      have hE := HZ.out
      unfold meansE at hE
      split at hE
      · rename_i hne; exact absurd hE hne
      · rename_i hne; exact Decidable.of_not_not hne
    have hca : chkA ⟨an, aop, av, asl, af, aon⟩ = 0 := by
      have hE := HZ.out
      unfold meansE at hE
      rwa [if_neg (fun h => h hct)] at hE
    obtain ⟨ck0, ck1, ck2⟩ := chk_bare hca
    have hE0 : ∀ a, chkA a = 0 → meansE ps a = 0 := fun a ha => by unfold meansE; rw [if_neg (fun h => h hct)]; exact ha
    have HB0 : Hid (meansE ps ⟨an, 0, 0, 0, ⟨#[]⟩, false⟩ = 0) := hE0 _ ck0
    have HB1 : Hid (meansE ps ⟨an, 2, 2, 0, ⟨#[]⟩, false⟩ = 0) := hE0 _ ck1
    have HB2 : Hid (meansE ps ⟨an, 3, 2, 0, ⟨#[]⟩, false⟩ = 0) := hE0 _ ck2
    have h8 : ps.length ≤ 8 := (chkT_get hct).1
    have hll : (meansL ps ⟨an, aop, av, asl, af, aon⟩ ps.length).length ≤ 8 := by have := meansL_len ps ⟨an, aop, av, asl, af, aon⟩ ps.length; omega
    have HR : Hid ((meansL ps ⟨an, aop, av, asl, af, aon⟩ ps.length).Pairwise (· < ·)) := meansL_rises _ _ _
    have HSUB : Hid ((!((meansL ps ⟨an, aop, av, asl, af, aon⟩ ps.length).any fun k => !(meansL ps ⟨an, 0, 0, 0, ⟨#[]⟩, false⟩ ps.length).contains k)) = true) := by
      show _ = _
      rw [Bool.not_eq_true', List.any_eq_false]
      intro k hk
      have := meansL_sub (a := ⟨an, aop, av, asl, af, aon⟩) (b := aBare an) (fun p hp => meant_less hp) k hk
      have h2 : (meansL ps ⟨an, 0, 0, 0, ⟨#[]⟩, false⟩ ps.length).contains k = true := by rw [List.contains_iff_mem]; exact this
      rw [h2]; decide
    clear hct hca ck0 ck1 ck2 hE0
    generalize meansL ps ⟨an, aop, av, asl, af, aon⟩ ps.length = ls at I1 hll HR HSUB
    go_wp2_with fail
    refine at_calls (fun W' => Keep w W' ∧ VarAt w.heap.size 44 (.slice tp ps.length tc) W' ∧ Boxed (w.heap.size + 1) #[.string an, .int .i64 aop, .int .i64 av, .int .i64 asl, .string af, .bool aon] W' ∧ VarAt w1.heap.size 49 (.slice p1 ls.length c1) W' ∧ IntsAt (.slice p1 ls.length c1) ls W') ⟨K1.out.alloc' _, V1.out.keep (Keep.alloc _ _) V1.out.facts.2.2, B1.out.keep (Keep.alloc _ _) B1.out.1, VarAt.new _ _ _, I1.out.keep (Keep.alloc _ _)⟩ ?_
    rintro W2 ⟨k2, v2, b2, l2, i2⟩
    refine (forest_any W2 (HE.out.keep k2) (HM.out.keep k2)).mono ?_
    rintro e w3 ⟨rfl, k3⟩
    have K3 := hid (k2.trans k3)
    have V3 := hid (v2.keep k3 v2.facts.2.2)
    have B3 := hid (b2.keep k3 b2.1)
    have L3 := hid (l2.keep k3 l2.facts.2.2)
    have I3 := hid (i2.keep k3)
    clear k2 v2 b2 l2 i2 k3 K1 V1 B1 I1
    obtain ⟨hcv, -, hlv⟩ := V3.out.facts
    have hcb := B3.out.2
    have hlb := B3.out.1
    have hmf : ∀ (fn : Fn) (first cap : Array Value) (w : World), (Instr.makeFunc fn first cap).run Tryz.prog w = .ok (.func fn first cap) w := fun _ _ _ _ => rfl
    go_wp2_with fail
    refine at_calls (fun W' => Keep w W' ∧ VarAt w.heap.size 44 (.slice tp ps.length tc) W' ∧ VarAt w1.heap.size 49 (.slice p1 ls.length c1) W' ∧ IntsAt (.slice p1 ls.length c1) ls W' ∧ BoxAt w3.heap.size 23 #[.string an, .int .i64 0, .int .i64 0, .int .i64 0, .string ⟨#[]⟩, .bool false] W') ⟨K3.out.alloc' _, V3.out.keep (Keep.alloc _ _) V3.out.facts.2.2, L3.out.keep (Keep.alloc _ _) L3.out.facts.2.2, I3.out.keep (Keep.alloc _ _), BoxAt.new _ _ _⟩ ?_
    rintro W4 ⟨k4, v4, l4, i4, b4⟩
    refine (in1_any S ps _ _ ls w.heap.size w1.heap.size an ⟨#[]⟩ 0 0 0 false W4 (fun b hb => Nat.lt_of_lt_of_le (hS b hb) k4.size) (HP.out.keep hS k4) v4 l4 i4 (by omega) HB0.out).mono ?_
    rintro e w5 ⟨v5, rfl, hi5, k5⟩
    rw [HSUB.out]
    have K5 := hid (k4.trans k5)
    have V5 := hid (v4.keep k5 v4.facts.2.2)
    have L5 := hid (l4.keep k5 l4.facts.2.2)
    have I5 := hid (i4.keep k5)
    have B5 := hid (b4.keep k5 b4.facts.2.2)
    have A5 := hid hi5
    have hlt3 : w.heap.size < w3.heap.size := hlv
    clear k4 v4 l4 i4 b4 k5 hi5 K3 V3 B3 L3 I3 HSUB hcv hlv hcb hlb HB0
    obtain ⟨p5, c5, hv5⟩ := A5.out.len
    subst hv5
    obtain ⟨hcl5, -, hll5⟩ := L5.out.facts
    have hal : (meansL ps ⟨an, 0, 0, 0, ⟨#[]⟩, false⟩ ps.length).length ≤ 8 := by have := meansL_len ps ⟨an, 0, 0, 0, ⟨#[]⟩, false⟩ ps.length; omega
    have HPERM : Hid ((meansL ps ⟨an, 2, 2, 0, ⟨#[]⟩, false⟩ ps.length ++ meansL ps ⟨an, 3, 2, 0, ⟨#[]⟩, false⟩ ps.length).Perm (meansL ps ⟨an, 0, 0, 0, ⟨#[]⟩, false⟩ ps.length)) := parts_perm ps an ps.length
    have HRI : Hid ((meansL ps ⟨an, 0, 0, 0, ⟨#[]⟩, false⟩ ps.length).Pairwise (· < ·)) := meansL_rises _ _ _
    generalize meansL ps ⟨an, 0, 0, 0, ⟨#[]⟩, false⟩ ps.length = al at A5 hal HPERM HRI
    go_wp2_with fail
    refine (isSorted_any _ ls w5 I5.out (by omega) HR.out).mono ?_
    rintro e w6 ⟨rfl, k6⟩
    have K6 := hid (K5.out.trans k6)
    have V6 := hid (V5.out.keep k6 V5.out.facts.2.2)
    have A6 := hid (A5.out.keep k6)
    have B6 := hid (B5.out.keep k6 B5.out.facts.2.2)
    clear k6 K5 V5 L5 I5 B5 A5 hcl5 hll5 hmf
    obtain ⟨hcv, -, hlv⟩ := V6.out.facts
    obtain ⟨hcb, hfb, hlb⟩ := B6.out.facts
    have hns : ∀ (x : Int) (W : World) (cs : Array Value), BoxAt w3.heap.size 23 (#[.string an] ++ cs) W → W.cell? ⟨w3.heap.size, 0, none⟩ ≠ some (.int .i64 x) := fun x W cs h e => by
      have h1 := h.facts.1 0
      have h2 : (#[Value.string an] ++ cs)[0]? = some (Value.string an) := by rw [Array.getElem?_append_left (by simp)]; rfl
      rw [e, h2] at h1
      cases h1
    have HNS := hid hns
    have b7 := (B6.out.set 1 (.int .i64 2)).set 2 (.int .i64 2)
    have a7 := (one_setO w3.heap.size 1 w6 (.int .i64 2)).trans (one_setO w3.heap.size 2 _ (.int .i64 2))
    have HQ : Hid (Keep w ((w6.setCell ⟨w3.heap.size, 1, none⟩ (.int .i64 2)).setCell ⟨w3.heap.size, 2, none⟩ (.int .i64 2)) ∧ VarAt w.heap.size 44 (.slice tp ps.length tc) ((w6.setCell ⟨w3.heap.size, 1, none⟩ (.int .i64 2)).setCell ⟨w3.heap.size, 2, none⟩ (.int .i64 2)) ∧ IntsAt (.slice p5 al.length c5) al ((w6.setCell ⟨w3.heap.size, 1, none⟩ (.int .i64 2)).setCell ⟨w3.heap.size, 2, none⟩ (.int .i64 2)) ∧ BoxAt w3.heap.size 23 #[.string an, .int .i64 2, .int .i64 2, .int .i64 0, .string ⟨#[]⟩, .bool false] ((w6.setCell ⟨w3.heap.size, 1, none⟩ (.int .i64 2)).setCell ⟨w3.heap.size, 2, none⟩ (.int .i64 2))) :=
      ⟨Below.trans K6.out (a7.below K6.out.size fun b hb e => by have : b = w3.heap.size := e; omega), V6.out.apart a7 (by omega), A6.out.apart a7 (fun x => HNS.out x _ #[.int .i64 0, .int .i64 0, .int .i64 0, .string ⟨#[]⟩, .bool false] B6.out), b7⟩
    clear b7 a7 hns
    go_wp2_with fail
    refine at_calls (fun W' => Keep w W' ∧ VarAt w.heap.size 44 (.slice tp ps.length tc) W' ∧ IntsAt (.slice p5 al.length c5) al W' ∧ BoxAt w3.heap.size 23 #[.string an, .int .i64 2, .int .i64 2, .int .i64 0, .string ⟨#[]⟩, .bool false] W') ?_ ?_
    exact HQ.out
    rintro W7 ⟨k7, v7, a7, b7⟩
    clear HQ K6 V6 A6 B6 hcv hlv hcb hfb hlb
    refine (means_any S ps _ an ⟨#[]⟩ 2 2 0 false W7 (fun b hb => Nat.lt_of_lt_of_le (hS b hb) k7.size) (HP.out.keep hS k7)).mono ?_
    rintro e w8 ⟨v8, rfl, -, hi8, k8⟩
    rw [HB1.out]
    have X8 := hid (hi8 HB1.out)
    have K8 := hid (k7.trans k8)
    have V8 := hid (v7.keep k8 v7.facts.2.2)
    have A8 := hid (a7.keep k8)
    have B8 := hid (b7.keep k8 b7.facts.2.2)
    have hxl : (meansL ps ⟨an, 2, 2, 0, ⟨#[]⟩, false⟩ ps.length).length ≤ 8 := by have := meansL_len ps ⟨an, 2, 2, 0, ⟨#[]⟩, false⟩ ps.length; omega
    clear k7 v7 a7 b7 hi8 k8
    obtain ⟨p8, c8, hv8⟩ := X8.out.len
    subst hv8
    generalize meansL ps ⟨an, 2, 2, 0, ⟨#[]⟩, false⟩ ps.length = xs at X8 hxl HPERM
    obtain ⟨hcv, -, hlv⟩ := V8.out.facts
    obtain ⟨hcb, hfb, hlb⟩ := B8.out.facts
    have b9 := B8.out.set 1 (.int .i64 3)
    have a9 := one_setO w3.heap.size 1 w8 (.int .i64 3)
    have HQ : Hid (Keep w (w8.setCell ⟨w3.heap.size, 1, none⟩ (.int .i64 3)) ∧ VarAt w.heap.size 44 (.slice tp ps.length tc) (w8.setCell ⟨w3.heap.size, 1, none⟩ (.int .i64 3)) ∧ IntsAt (.slice p5 al.length c5) al (w8.setCell ⟨w3.heap.size, 1, none⟩ (.int .i64 3)) ∧ IntsAt (.slice p8 xs.length c8) xs (w8.setCell ⟨w3.heap.size, 1, none⟩ (.int .i64 3))) :=
      ⟨Below.trans K8.out (a9.below K8.out.size fun b hb e => by have : b = w3.heap.size := e; omega), V8.out.apart a9 (by omega), A8.out.apart a9 (fun x => HNS.out x _ #[.int .i64 2, .int .i64 2, .int .i64 0, .string ⟨#[]⟩, .bool false] B8.out), X8.out.apart a9 (fun x => HNS.out x _ #[.int .i64 2, .int .i64 2, .int .i64 0, .string ⟨#[]⟩, .bool false] B8.out)⟩
    clear b9 a9
    go_wp2_with fail
    refine at_calls (fun W' => Keep w W' ∧ VarAt w.heap.size 44 (.slice tp ps.length tc) W' ∧ IntsAt (.slice p5 al.length c5) al W' ∧ IntsAt (.slice p8 xs.length c8) xs W') ?_ ?_
    exact HQ.out
    rintro W9 ⟨k9, v9, a9, x9⟩
    clear HQ K8 V8 A8 B8 X8 hcv hlv hcb hfb hlb
    refine (means_any S ps _ an ⟨#[]⟩ 3 2 0 false W9 (fun b hb => Nat.lt_of_lt_of_le (hS b hb) k9.size) (HP.out.keep hS k9)).mono ?_
    rintro e w10 ⟨v10, rfl, -, hi10, k10⟩
    rw [HB2.out]
    have Y10 := hid (hi10 HB2.out)
    have K10 := hid (k9.trans k10)
    have A10 := hid (a9.keep k10)
    have X10 := hid (x9.keep k10)
    have hyl : (meansL ps ⟨an, 3, 2, 0, ⟨#[]⟩, false⟩ ps.length).length ≤ 8 := by have := meansL_len ps ⟨an, 3, 2, 0, ⟨#[]⟩, false⟩ ps.length; omega
    clear k9 v9 a9 x9 hi10 k10 HB1 HB2
    obtain ⟨p10, c10, hv10⟩ := Y10.out.len
    subst hv10
    generalize meansL ps ⟨an, 3, 2, 0, ⟨#[]⟩, false⟩ ps.length = ys at Y10 hyl HPERM
    go_wp2_with fail
    refine at_calls (fun W' => Keep w W' ∧ IntsAt (.slice p5 al.length c5) al W' ∧ RowsAt w10.heap.size [(.slice p8 xs.length c8, xs), (.slice p10 ys.length c10, ys)] W') ⟨K10.out.alloc' _, A10.out.keep (Keep.alloc _ _), by rw [alloc_size]; omega, ?_⟩ ?_
    · intro j r hr
      match j, hr with
      | 0, hr => cases hr; exact ⟨by simp, X10.out.keep (Keep.alloc _ _)⟩
      | 1, hr => cases hr; exact ⟨by simp, Y10.out.keep (Keep.alloc _ _)⟩
    rintro W11 ⟨k11, a11, r11⟩
    have hcat : catI [(.slice p8 xs.length c8, xs), (.slice p10 ys.length c10, ys)] 2 = xs ++ ys := by simp [catI]
    have hc := concat_any w10.heap.size 2 [(.slice p8 xs.length c8, xs), (.slice p10 ys.length c10, ys)] W11 r11 (by simp) (by show (catI _ 2).length ≤ 2000; rw [hcat]; simp; omega)
    refine Calls.mono hc ?_
    rintro e w12 ⟨v12, rfl, ho12, k12⟩
    have O12 : Hid (IntsOwn W11.heap.size v12 (xs ++ ys) w12) := hcat ▸ ho12
    have K12 := hid k12
    have KW := hid k11
    have A11 := hid a11
    clear k11 a11 r11 hcat hc ho12 k12 K10 A10 X10 Y10
    go_wp2_with fail
    refine (sortI_any W11.heap.size v12 (xs ++ ys) w12 O12.out K12.out.size (by simp; omega)).mono ?_
    rintro e w13 ⟨rfl, ho13, k13⟩
    rw [sorted_rises HPERM.out HRI.out] at ho13
    have K13' : Hid (Keep W11 w13) := Below.trans K12.out k13
    have K13 := hid (KW.out.trans K13'.out)
    have I13 := hid ho13.ints
    clear k13 ho13 O12 K12
    go_wp2_with fail
    refine (equalI_any v12 _ al al w13 I13.out (A11.out.keep K13'.out) (by omega) (by omega)).mono ?_
    rintro e w14 ⟨rfl, q, rfl⟩
    have K14 : Hid (Keep w (w13.drewN q)) := Keep.drewN K13.out q
    generalize w13.drewN q = W14 at K14
    have hal2 : (al == al) = true := by simp
    rw [hal2]
    clear hal2
    go_wp2_with fail
    go_ret
    exact ⟨rfl, K14.out⟩
  · have hz1 : (meansE ps ⟨an, aop, av, asl, af, aon⟩ == 0) = false := by simp [hz]
    have hz2 : (meansE ps ⟨an, aop, av, asl, af, aon⟩ != 0) = true := by simp [hz]
    have hv1 := hn1 hz
    subst hv1
    generalize meansE ps ⟨an, aop, av, asl, af, aon⟩ = me at hz1 hz2
    clear hn1 hi1 hz
    go_wp2_with fail
    refine at_calls (fun W' => Keep w W') (K1.out.alloc' _) ?_
    intro W2 k2
    refine (forest_any W2 (HE.out.keep k2) (HM.out.keep k2)).mono ?_
    rintro e w3 ⟨rfl, k3⟩
    have K3 := hid (k2.trans k3)
    clear k2 k3
    go_wp2_with fail
    refine (forest_any w3 (HE.out.keep K3.out) (HM.out.keep K3.out)).mono ?_
    rintro e w4 ⟨rfl, k4⟩
    have K4 := hid (K3.out.trans k4)
    clear k4
    go_wp2_with fail
    go_ret
    exact ⟨rfl, K4.out⟩
end Go.Proofs.YtlfonjngbpfelaaGreatDoor
