/- The closed facts: the small tree is read, and what may be of it is told. -/
import Derived.Test.YtlfonjngbpfelaaGreatDoorValidSmall
import Derived.BigRegion
namespace Go.Proofs.YtlfonjngbpfelaaGreatDoor
open Go.RowKit Go.Sort

set_option maxHeartbeats 2000000 in
set_option maxRecDepth 100000 in
theorem small_any (w : World) (hE : Env w) (hM : MaxAt w) :
    Calls Tryz.prog 108 #[] w fun e w' => ∃ v, e = .returned (.tuple #[.agg #[v], .bool true]) ∧ PkgsIs (fun b => w.heap.size ≤ b ∧ b < w'.heap.size) w' smallT v ∧ Keep w w' := by
  have HE := hid hE
  have HM := hid hM
  clear hE hM
  go_enter Tryz.func108, Tryz.ntmps108
  go_wp2_with fail
  refine at_calls (fun W' => Keep w W' ∧ VarAt w.heap.size 44 (.slice none 0 0) W') ⟨Keep.alloc _ _, VarAt.new _ _ _⟩ ?_
  rintro W0 ⟨k0, v0⟩
  refine (treeParse_any _ W0 (HE.out.keep k0) (HM.out.keep k0)).mono ?_
  rintro e w1 ⟨v1, rfl, -, hp1, k1⟩
  have hrd : rdT (ByteArray.mk #[97, 32, 49, 32, 49, 32, 32, 40, 32, 98, 32, 41, 10, 97, 32, 50, 32, 49, 32, 120, 32, 40, 32, 120, 63, 32, 40, 32, 98, 32, 41, 32, 41, 10, 98, 32, 49, 32, 49, 32, 32, 40, 32, 33, 99, 32, 41, 10, 99, 32, 49, 32, 49, 32, 32, 40, 32, 41, 10]).data.toList = (0, 0, smallT) := F3_read
  rw [hrd] at hp1 ⊢
  simp only at hp1 ⊢
  obtain ⟨p1, c1, rfl, -⟩ := hp1.len
  have hlen : smallT.length = 4 := rfl
  rw [hlen] at hp1 ⊢
  have K0s := k0.size
  have hW0 : w.heap.size + 1 ≤ W0.heap.size := v0.facts.2.2
  have HP1 : Hid (PkgsIs (fun b => w.heap.size + 1 ≤ b ∧ b < w1.heap.size) w1 smallT (.slice p1 4 c1)) := PkgsIs.mono (fun _ _ => rfl) (fun b hb => ⟨Nat.le_trans hW0 hb.1, hb.2⟩) hp1
  have K1 := hid (k0.trans k1)
  have V1 := hid (v0.keep k1 v0.facts.2.2)
  have hsz1 : w.heap.size + 1 ≤ w1.heap.size := by have := V1.out.facts.2.2; omega
  clear k0 v0 hp1 k1 hrd hlen
  go_upto_region 2 with fail
  refine at_wp (fun W' => Keep w W' ∧ Keep w1 W' ∧ VarAt w.heap.size 44 (.slice none 0 0) W' ∧ VarAt w1.heap.size 44 (.slice p1 4 c1) W') ⟨K1.out.alloc' _, Keep.alloc _ _, V1.out.keep (Keep.alloc _ _) V1.out.facts.2.2, VarAt.new _ _ _⟩ ?_
  rintro W2 ⟨k2, k12, v2, t2⟩
  have K2 := hid k2
  have K12 := hid k12
  have V2 := hid v2
  obtain ⟨g1, z1, l1⟩ := v2.facts
  obtain ⟨g2, z2, l2⟩ := t2.facts
  clear k2 k12 v2 t2
  go_region
  have v3 := V2.out.set (.slice p1 4 c1)
  have HQ : Hid (VarAt w.heap.size 44 (.slice p1 4 c1) (W2.setCell ⟨w.heap.size, 0, none⟩ (.slice p1 4 c1)).drew ∧ Keep w (W2.setCell ⟨w.heap.size, 0, none⟩ (.slice p1 4 c1)).drew ∧ PkgsIs (fun b => w.heap.size ≤ b ∧ b < (W2.setCell ⟨w.heap.size, 0, none⟩ (.slice p1 4 c1)).drew.heap.size) (W2.setCell ⟨w.heap.size, 0, none⟩ (.slice p1 4 c1)).drew smallT (.slice p1 4 c1)) := by
    have ap := one_set w.heap.size W2 (.slice p1 4 c1)
    have hz : W2.heap.size ≤ (W2.setCell ⟨w.heap.size, 0, none⟩ (.slice p1 4 c1)).heap.size := ap.size
    refine ⟨v3.keep (keep_drw _) v3.facts.2.2, Keep.trans (show Keep w (W2.setCell ⟨w.heap.size, 0, none⟩ (.slice p1 4 c1)) from Below.trans K2.out (ap.below K2.out.size fun b hb e => by have : b = w.heap.size := e; omega)) (keep_drw _), ?_⟩
    refine PkgsIs.mono (fun p hp => ?_) (fun b hb => ⟨by omega, Nat.lt_of_lt_of_le hb.2 (Nat.le_trans K12.out.size hz)⟩) HP1.out
    exact (ap.cell p (Nat.lt_of_lt_of_le hp.2 K12.out.size) (fun e => by have e' : p.block = w.heap.size := e; have := hp.1; omega)).trans (K12.out.cell (p := p) hp.2)
  clear v3 g1 z1 g2 z2
  go_wp2_with fail
  refine at_ret (v := .tuple #[.agg #[.slice p1 4 c1], .bool true]) (fun W' => VarAt w.heap.size 44 (.slice p1 4 c1) W' ∧ Keep w W' ∧ PkgsIs (fun b => w.heap.size ≤ b ∧ b < W'.heap.size) W' smallT (.slice p1 4 c1)) ?_ rfl ?_
  · exact HQ.out
  rintro W ⟨hb, hk, hp⟩
  obtain ⟨hcW, -, -⟩ := hb.facts
  exact ⟨by simp [results, Tryz.results108, go_sem, hcW], _, rfl, hp, hk⟩

theorem boxed_at {W : World} {n : Nat} (h : W.heap.size = n) (cs : Array Value) (T : TypeId) : Boxed n cs (W.alloc (.cells cs T)) := h ▸ Boxed.new W cs T
def inW (W : World) (b : Nat) : Prop := b < W.heap.size
theorem wish_small {b : Nat} {W : World} (hb : Boxed b #[.string ⟨#[97]⟩, .int .i64 0, .int .i64 0, .int .i64 0, .string ⟨#[]⟩, .bool false] W) : WishIs (inW W) W wA (.slice (some ⟨b, 0, none⟩) 1 1) (.slice none 0 0) (.slice none 0 0) (.slice none 0 0) := by
  refine ⟨⟨_, _, rfl, by decide, fun _ => ⟨b, 0, rfl, hb.1, fun j a ha => ?_⟩⟩, ⟨_, _, rfl, by decide, fun h => absurd h (by decide)⟩, ⟨_, _, rfl, by decide, fun h => absurd h (by decide)⟩, ⟨_, _, rfl, by decide, fun h => absurd h (by decide)⟩⟩
  match j, ha with
  | 0, ha => cases ha; exact ⟨hb.2 0, hb.2 1, hb.2 2, hb.2 3, hb.2 4, hb.2 5⟩
theorem mbs_one {b c : Nat} {x : Bool} {W : World} (hb : Boxed b #[.int .i64 1, .slice (some ⟨c, 0, none⟩) 1 1] W) (hc : Boxed c #[.bool x] W) : MbsIs (inW W) W [⟨1, [x]⟩] (.slice (some ⟨b, 0, none⟩) 1 1) := by
  refine ⟨_, _, rfl, by simp, fun _ => ⟨b, 0, rfl, hb.1, fun j m hm => ?_⟩⟩
  match j, hm with
  | 0, hm =>
    cases hm
    refine ⟨_, hb.2 0, hb.2 1, _, _, rfl, by simp, fun _ => ⟨c, 0, rfl, hc.1, fun j y hy => ?_⟩⟩
    match j, hy with
    | 0, hy => cases hy; exact hc.2 0
theorem mbs_three {b : Nat} {W : World} (hb : Boxed b #[.int .i64 0, .slice none 0 0, .int .i64 2, .slice none 0 0, .int .i64 3, .slice none 0 0] W) : MbsIs (inW W) W mC (.slice (some ⟨b, 0, none⟩) 3 3) := by
  refine ⟨_, _, rfl, by decide, fun _ => ⟨b, 0, rfl, hb.1, fun j m hm => ?_⟩⟩
  match j, hm with
  | 0, hm => cases hm; exact ⟨_, hb.2 0, hb.2 1, none, 0, rfl, by simp, fun h => absurd h (by simp)⟩
  | 1, hm => cases hm; exact ⟨_, hb.2 2, hb.2 3, none, 0, rfl, by simp, fun h => absurd h (by simp)⟩
  | 2, hm => cases hm; exact ⟨_, hb.2 4, hb.2 5, none, 0, rfl, by simp, fun h => absurd h (by simp)⟩

set_option maxHeartbeats 4000000 in
set_option maxRecDepth 100000 in
theorem allowed_any (w : World) (hE : Env w) (hM : MaxAt w) :
    Calls Tryz.prog 49 #[] w fun e w' => e = .returned (.bool true) ∧ Keep w w' := by
  go_enter Tryz.func49, Tryz.ntmps49
  go_wp2_with fail
  refine (small_any w hE hM).mono ?_
  rintro e w1 ⟨v1, rfl, hp1, k1⟩
  obtain ⟨p1, c1, rfl, -⟩ := hp1.len
  have HP1 := hid (PkgsIs.mono (S' := inW w1) (fun _ _ => rfl) (fun b hb => hb.2) hp1)
  have K1 := hid k1
  clear hp1 k1 hE hM
  go_wp2_with fail
  refine at_calls (fun W' => Keep w1 W' ∧ VarAt w1.heap.size 44 (.slice p1 smallT.length c1) W' ∧ Boxed (w1.heap.size + 1) #[.string ⟨#[97]⟩, .int .i64 0, .int .i64 0, .int .i64 0, .string ⟨#[]⟩, .bool false] W' ∧ Boxed (w1.heap.size + 1 + 1) #[.slice (some ⟨w1.heap.size + 1, 0, none⟩) 1 1, .slice none 0 0, .slice none 0 0, .slice none 0 0] W' ∧ Boxed (w1.heap.size + 1 + 1 + 1) #[.bool false] W' ∧ Boxed (w1.heap.size + 1 + 1 + 1 + 1) #[.int .i64 1, .slice (some ⟨w1.heap.size + 1 + 1 + 1, 0, none⟩) 1 1] W')
    ⟨((((Keep.alloc _ _).alloc' _).alloc' _).alloc' _).alloc' _, (VarAt.new _ _ _).keep ((((Keep.alloc _ _).alloc' _).alloc' _).alloc' _) (by simp), (boxed_at (by simp) _ _).keep (((Keep.alloc _ _).alloc' _).alloc' _) (by simp), (boxed_at (by simp) _ _).keep ((Keep.alloc _ _).alloc' _) (by simp), (boxed_at (by simp) _ _).keep (Keep.alloc _ _) (by simp), boxed_at (by simp) _ _⟩ ?_
  rintro W2 ⟨k2, v2, b2, x2, y2, z2⟩
  refine (valid_any (inW W2) smallT wA mA _ _ _ _ _ _ W2 (fun _ h => h) (PkgsIs.mono (below_cells (fun _ h => h) k2) (fun b hb => Nat.lt_of_lt_of_le hb k2.size) HP1.out) (wish_small b2) (mbs_one z2 y2)).mono ?_
  rintro e w3 ⟨rfl, k3⟩
  rw [valid_A.1, valid_A.2]
  have K3 := hid (k2.trans k3)
  have V3 := hid (v2.keep k3 v2.facts.2.2)
  have B3 := hid (b2.keep k3 b2.1)
  have X3 := hid (x2.keep k3 x2.1)
  obtain ⟨hcv, -, hlv⟩ := V3.out.facts
  have hcx := X3.out.2
  have hlx := X3.out.1
  clear k2 v2 b2 x2 y2 z2 k3
  go_wp2_with fail
  refine at_calls (fun W' => Keep w1 W' ∧ VarAt w1.heap.size 44 (.slice p1 smallT.length c1) W' ∧ Boxed (w1.heap.size + 1) #[.string ⟨#[97]⟩, .int .i64 0, .int .i64 0, .int .i64 0, .string ⟨#[]⟩, .bool false] W' ∧ Boxed (w1.heap.size + 1 + 1) #[.slice (some ⟨w1.heap.size + 1, 0, none⟩) 1 1, .slice none 0 0, .slice none 0 0, .slice none 0 0] W' ∧ Boxed w3.heap.size #[.bool true] W' ∧ Boxed (w3.heap.size + 1) #[.int .i64 1, .slice (some ⟨w3.heap.size, 0, none⟩) 1 1] W')
    ⟨(K3.out.alloc' _).alloc' _, V3.out.keep ((Keep.alloc _ _).alloc' _) V3.out.facts.2.2, B3.out.keep ((Keep.alloc _ _).alloc' _) B3.out.1, X3.out.keep ((Keep.alloc _ _).alloc' _) X3.out.1, (Boxed.new _ _ _).keep (Keep.alloc _ _) (by simp), boxed_at (by simp) _ _⟩ ?_
  rintro W4 ⟨k4, v4, b4, x4, y4, z4⟩
  refine (valid_any (inW W4) smallT wA mB _ _ _ _ _ _ W4 (fun _ h => h) (PkgsIs.mono (below_cells (fun _ h => h) k4) (fun b hb => Nat.lt_of_lt_of_le hb k4.size) HP1.out) (wish_small b4) (mbs_one z4 y4)).mono ?_
  rintro e w5 ⟨rfl, k5⟩
  rw [valid_B.1, valid_B.2]
  have K5 := hid (k4.trans k5)
  have V5 := hid (v4.keep k5 v4.facts.2.2)
  have B5 := hid (b4.keep k5 b4.1)
  have X5 := hid (x4.keep k5 x4.1)
  clear k4 v4 b4 x4 y4 z4 k5 hcv hlv hcx hlx
  obtain ⟨hcv, -, hlv⟩ := V5.out.facts
  have hcx := X5.out.2
  have hlx := X5.out.1
  go_wp2_with fail
  refine at_calls (fun W' => Keep w1 W' ∧ VarAt w1.heap.size 44 (.slice p1 smallT.length c1) W' ∧ Boxed (w1.heap.size + 1) #[.string ⟨#[97]⟩, .int .i64 0, .int .i64 0, .int .i64 0, .string ⟨#[]⟩, .bool false] W' ∧ Boxed (w1.heap.size + 1 + 1) #[.slice (some ⟨w1.heap.size + 1, 0, none⟩) 1 1, .slice none 0 0, .slice none 0 0, .slice none 0 0] W' ∧ Boxed w5.heap.size #[.int .i64 0, .slice none 0 0, .int .i64 2, .slice none 0 0, .int .i64 3, .slice none 0 0] W')
    ⟨K5.out.alloc' _, V5.out.keep (Keep.alloc _ _) V5.out.facts.2.2, B5.out.keep (Keep.alloc _ _) B5.out.1, X5.out.keep (Keep.alloc _ _) X5.out.1, Boxed.new _ _ _⟩ ?_
  rintro W6 ⟨k6, v6, b6, x6, z6⟩
  refine (valid_any (inW W6) smallT wA mC _ _ _ _ _ _ W6 (fun _ h => h) (PkgsIs.mono (below_cells (fun _ h => h) k6) (fun b hb => Nat.lt_of_lt_of_le hb k6.size) HP1.out) (wish_small b6) (mbs_three z6)).mono ?_
  rintro e w7 ⟨rfl, k7⟩
  rw [valid_C.1, valid_C.2]
  have K7 := hid (K1.out.trans (k6.trans k7))
  clear k6 v6 b6 x6 z6 k7 hcv hlv hcx hlx
  go_wp2_with fail
  go_ret
  exact ⟨rfl, K7.out⟩
end Go.Proofs.YtlfonjngbpfelaaGreatDoor
