/- atom.Parse answers as the plain functions prsE and their kin say, of every text; premises: what the program lays. -/
import Derived.Test.YtnagpmilagdjeaaGreatDoorAtomWhole
import Derived.Deep.RegionWith
namespace Go.Proofs.YtnagpmilagdjeaaGreatDoor
open Go.RowKit

/-- Parse's error. -/
def prsE (l : List UInt8) : Int :=
  if 20000 < l.length then 2 else if readOk l = false then 1 else chk (nmL l) (opV (veL l)) (verV (veL l)) (slotV (slL l)) ((flL l).drop 1) (onV (flL l))
/-- What Parse answers. -/
def ParseDone (l : List UInt8) (w : World) (e : Ending) (w' : World) : Prop :=
  ∃ (n f : ByteArray) (op v sl : Int) (on : Bool), e = .returned (.tuple #[.agg #[.string n, .int .i64 op, .int .i64 v, .int .i64 sl, .string f, .bool on], .int .i64 (prsE l)])
    ∧ (prsE l = 0 → n.data.toList = nmL l ∧ op = opV (veL l) ∧ v = verV (veL l) ∧ sl = slotV (slL l) ∧ f.data.toList = (flL l).drop 1 ∧ on = onV (flL l))
    ∧ (prsE l ≠ 0 → n = ⟨#[]⟩ ∧ op = 0 ∧ v = 0 ∧ sl = 0 ∧ f = ⟨#[]⟩ ∧ on = false) ∧ Keep w w'

theorem clone_any (s : ByteArray) (w : World) (h : s.size ≤ 281474976710656) :
    Calls Tryz.prog 51 #[.string s] w fun e w' => e = .returned (.string s) ∧ Keep w w' := by
  go_enter Tryz.func51, Tryz.ntmps51
  go_wp2_with (go_at_call 105; refine (Tryz.stringslite_Clone _ _ h).mono ?_; rintro e w' ⟨rfl, k⟩)
  go_ret
  exact ⟨rfl, by assumption⟩

/-- What a step in the middle of Parse leaves as it was. -/
def Mid (w : World) (r b : Nat) (n f : ByteArray) (op v sl : Int) (on : Bool) (W : World) : Prop := AtomAt b n op v sl f on W ∧ AtomAt r ⟨#[]⟩ 0 0 0 ⟨#[]⟩ false W ∧ Keep w W
theorem Mid.drew {w : World} {r b : Nat} {n f : ByteArray} {op v sl : Int} {on : Bool} {W : World} (h : Mid w r b n f op v sl on W) : Mid w r b n f op v sl on W.drew := ⟨h.1, h.2.1, h.2.2.drew⟩
theorem mid_last {w : World} {b : Nat} {n f : ByteArray} {op v sl : Int} {on : Bool} {W : World} (h : Mid w w.heap.size b n f op v sl on W) (hb : w.heap.size < b) :
    AtomAt w.heap.size n op v sl f on ((((((((W.setCell ⟨b, 0, none⟩ (.string n)).setCell ⟨b, 4, none⟩ (.string f)).setCell ⟨w.heap.size, 0, none⟩ (.string n)).setCell ⟨w.heap.size, 1, none⟩ (.int .i64 op)).setCell ⟨w.heap.size, 2, none⟩ (.int .i64 v)).setCell ⟨w.heap.size, 3, none⟩ (.int .i64 sl)).setCell ⟨w.heap.size, 4, none⟩ (.string f)).setCell ⟨w.heap.size, 5, none⟩ (.bool on)) ∧ Keep w ((((((((W.setCell ⟨b, 0, none⟩ (.string n)).setCell ⟨b, 4, none⟩ (.string f)).setCell ⟨w.heap.size, 0, none⟩ (.string n)).setCell ⟨w.heap.size, 1, none⟩ (.int .i64 op)).setCell ⟨w.heap.size, 2, none⟩ (.int .i64 v)).setCell ⟨w.heap.size, 3, none⟩ (.int .i64 sl)).setCell ⟨w.heap.size, 4, none⟩ (.string f)).setCell ⟨w.heap.size, 5, none⟩ (.bool on)) := by
  have r1 : AtomAt w.heap.size ⟨#[]⟩ 0 0 0 ⟨#[]⟩ false ((W.setCell ⟨b, 0, none⟩ (.string n)).setCell ⟨b, 4, none⟩ (.string f)) := (h.2.1.below (below_set W b 0 _) hb).below (below_set _ b 4 _) hb
  have k1 : Keep w ((W.setCell ⟨b, 0, none⟩ (.string n)).setCell ⟨b, 4, none⟩ (.string f)) := (h.2.2.set (p := ⟨b, 0, none⟩) (Nat.le_of_lt hb) _).set (p := ⟨b, 4, none⟩) (Nat.le_of_lt hb) _
  refine ⟨heap_set (heap_set (heap_set (heap_set (heap_set (heap_set r1 0 _) 1 _) 2 _) 3 _) 4 _) 5 _, ?_⟩
  exact (((((Keep.set (p := ⟨w.heap.size, 0, none⟩) k1 (Nat.le_refl _) _).set (p := ⟨w.heap.size, 1, none⟩) (Nat.le_refl _) _).set (p := ⟨w.heap.size, 2, none⟩) (Nat.le_refl _) _).set (p := ⟨w.heap.size, 3, none⟩) (Nat.le_refl _) _).set (p := ⟨w.heap.size, 4, none⟩) (Nat.le_refl _) _).set (p := ⟨w.heap.size, 5, none⟩) (Nat.le_refl _) _
theorem clone_mid (s : ByteArray) (W : World) (hs : s.size ≤ 20000) (w : World) (r b : Nat) (n f : ByteArray) (op v sl : Int) (on : Bool) (h : Mid w r b n f op v sl on W) :
    Calls Tryz.prog 51 #[.string s] W fun e w' => e = .returned (.string s) ∧ (∀ o, w'.cell? ⟨b, o, none⟩ = (#[.string n, .int .i64 op, .int .i64 v, .int .i64 sl, .string f, .bool on] : Array Value)[o]?) ∧ (∀ o, w'.frozen? ⟨b, o, none⟩ = false) ∧ Mid w r b n f op v sl on w' := by
  refine (clone_any s W (by omega)).mono ?_
  rintro e w' ⟨rfl, k⟩
  have h1 := h.1.below k h.1.facts.2.2
  exact ⟨rfl, h1.facts.1, h1.facts.2.1, h1, h.2.1.below k h.2.1.facts.2.2, h.2.2.trans k⟩
theorem one_new (w : World) (cs : Array Value) : (w.alloc (.cells cs 23)).heap[w.heap.size]? = some (.cells cs 23 (0, 0)) := by
  show (w.heap.push _)[w.heap.size]? = _
  rw [Array.getElem?_push, if_pos rfl]

set_option maxHeartbeats 1000000 in
theorem parse_long (s : ByteArray) (w : World) (hs : 20000 < s.size) :
    Calls Tryz.prog 149 #[.string s] w fun e w' => ParseDone s.data.toList w e w' := by
  have HP : Hid (prsE s.data.toList = 2) := by show _ = _; unfold prsE; rw [size_list, if_pos hs]
  have q1 : (20000 : Int) < (s.size : Int) := by omega
  go_enter Tryz.func149, Tryz.ntmps149
  go_wp2
  exact bodyPost_ret (v := .tuple #[.agg #[.string ⟨#[]⟩, .int .i64 0, .int .i64 0, .int .i64 0, .string ⟨#[]⟩, .bool false], .int .i64 2]) (by simp [results, Tryz.results149, go_sem]) rfl ⟨⟨#[]⟩, ⟨#[]⟩, 0, 0, 0, false, by rw [HP.out], fun e => by (rw [HP.out] at e; cases e), fun _ => ⟨rfl, rfl, rfl, rfl, rfl, rfl⟩, Keep.alloc _ _⟩

set_option maxHeartbeats 4000000 in
theorem parse_short (s : ByteArray) (w : World) (hE : Env w) (hs : s.size ≤ 20000) :
    Calls Tryz.prog 149 #[.string s] w fun e w' => ParseDone s.data.toList w e w' := by
  have q1 : ¬ (20000 : Int) < (s.size : Int) := by omega
  have HE : Hid (Env w) := hE
  have HL : Hid (¬ 20000 < s.data.toList.length) := by show ¬ _; rw [size_list]; omega
  clear hE
  have kz : Keep w (w.alloc (.cells #[.string ⟨#[]⟩, .int .i64 0, .int .i64 0, .int .i64 0, .string ⟨#[]⟩, .bool false] 23)) := Keep.alloc _ _
  have r0 : Hid (AtomAt w.heap.size ⟨#[]⟩ 0 0 0 ⟨#[]⟩ false (w.alloc (.cells #[.string ⟨#[]⟩, .int .i64 0, .int .i64 0, .int .i64 0, .string ⟨#[]⟩, .bool false] 23))) := one_new _ _
  go_enter Tryz.func149, Tryz.ntmps149
  go_wp2_with fail
  generalize hW0 : (w.alloc (.cells #[.string ⟨#[]⟩, .int .i64 0, .int .i64 0, .int .i64 0, .string ⟨#[]⟩, .bool false] 23)) = W0 at kz r0 ⊢
  clear hW0
  refine (read_any _ _ (HE.out.keep kz) hs).mono ?_
  rintro e w1 ⟨n, f, op, v, sl, on, rfl, hr, k1⟩
  have hz0 : w.heap.size < W0.heap.size := r0.out.facts.2.2
  have HR1 : Hid (AtomAt w.heap.size ⟨#[]⟩ 0 0 0 ⟨#[]⟩ false w1) := r0.out.below k1 hz0
  have K1 : Keep w w1 := kz.trans k1
  have hz1 : w.heap.size < w1.heap.size := HR1.out.facts.2.2
  cases hro : readOk s.data.toList
  · have HP : Hid (prsE s.data.toList = 1) := by show _ = _; unfold prsE; rw [if_neg HL.out, if_pos hro]
    clear hr hro
    obtain ⟨hcR, hzR, _⟩ := HR1.out.facts
    have HW : Hid (AtomAt w.heap.size ⟨#[]⟩ 0 0 0 ⟨#[]⟩ false (((((((w1.setCell ⟨w.heap.size, 0, none⟩ (.string ⟨#[]⟩)).setCell ⟨w.heap.size, 1, none⟩ (.int .i64 0)).setCell ⟨w.heap.size, 2, none⟩ (.int .i64 0)).setCell ⟨w.heap.size, 3, none⟩ (.int .i64 0)).setCell ⟨w.heap.size, 4, none⟩ (.string ⟨#[]⟩)).setCell ⟨w.heap.size, 5, none⟩ (.bool false)).alloc (.cells #[.string n, .int .i64 op, .int .i64 v, .int .i64 sl, .string f, .bool on] 23))) := AtomAt.below (heap_set (heap_set (heap_set (heap_set (heap_set (heap_set HR1.out 0 _) 1 _) 2 _) 3 _) 4 _) 5 _) (Keep.alloc _ _) (by simpa [World.setCell] using hz1)
    have KW : Hid (Keep w (((((((w1.setCell ⟨w.heap.size, 0, none⟩ (.string ⟨#[]⟩)).setCell ⟨w.heap.size, 1, none⟩ (.int .i64 0)).setCell ⟨w.heap.size, 2, none⟩ (.int .i64 0)).setCell ⟨w.heap.size, 3, none⟩ (.int .i64 0)).setCell ⟨w.heap.size, 4, none⟩ (.string ⟨#[]⟩)).setCell ⟨w.heap.size, 5, none⟩ (.bool false)).alloc (.cells #[.string n, .int .i64 op, .int .i64 v, .int .i64 sl, .string f, .bool on] 23))) := Keep.alloc' ((((((Keep.set (p := ⟨w.heap.size, 0, none⟩) K1 (Nat.le_refl _) _).set (p := ⟨w.heap.size, 1, none⟩) (Nat.le_refl _) _).set (p := ⟨w.heap.size, 2, none⟩) (Nat.le_refl _) _).set (p := ⟨w.heap.size, 3, none⟩) (Nat.le_refl _) _).set (p := ⟨w.heap.size, 4, none⟩) (Nat.le_refl _) _).set (p := ⟨w.heap.size, 5, none⟩) (Nat.le_refl _) _) _
    go_wp2_with fail
    generalize ((((((w1.setCell ⟨w.heap.size, 0, none⟩ (.string ⟨#[]⟩)).setCell ⟨w.heap.size, 1, none⟩ (.int .i64 0)).setCell ⟨w.heap.size, 2, none⟩ (.int .i64 0)).setCell ⟨w.heap.size, 3, none⟩ (.int .i64 0)).setCell ⟨w.heap.size, 4, none⟩ (.string ⟨#[]⟩)).setCell ⟨w.heap.size, 5, none⟩ (.bool false)).alloc (.cells #[.string n, .int .i64 op, .int .i64 v, .int .i64 sl, .string f, .bool on] 23) = W at HW KW ⊢
    obtain ⟨hcW, _, _⟩ := HW.out.facts
    have hcn : (1 : Int) ≠ 0 := by decide
    exact bodyPost_ret (v := .tuple #[.agg #[.string ⟨#[]⟩, .int .i64 0, .int .i64 0, .int .i64 0, .string ⟨#[]⟩, .bool false], .int .i64 1]) (by simp [results, Tryz.results149, go_sem, hcW]) rfl ⟨⟨#[]⟩, ⟨#[]⟩, 0, 0, 0, false, by rw [HP.out], fun e => absurd (HP.out.symm.trans e) (hcn), fun _ => ⟨rfl, rfl, rfl, rfl, rfl, rfl⟩, KW.out⟩
  · have HRD : Hid (n.data.toList = nmL s.data.toList ∧ op = opV (veL s.data.toList) ∧ v = verV (veL s.data.toList) ∧ sl = slotV (slL s.data.toList) ∧ f.data.toList = (flL s.data.toList).drop 1 ∧ on = onV (flL s.data.toList)) := hr hro
    have HP : Hid (prsE s.data.toList = chk n.data.toList op v sl f.data.toList on) := by
      show _ = _
      unfold prsE
      obtain ⟨d1, d2, d3, d4, d5, d6⟩ := HRD.out
      rw [if_neg HL.out, if_neg (by rw [hro]; decide), d1, ← d2, ← d3, ← d4, d5, ← d6]
    have HR2 : Hid (AtomAt w.heap.size ⟨#[]⟩ 0 0 0 ⟨#[]⟩ false (w1.alloc (.cells #[.string n, .int .i64 op, .int .i64 v, .int .i64 sl, .string f, .bool on] 23))) := HR1.out.below (Keep.alloc _ _) hz1
    have HB2 : Hid (AtomAt w1.heap.size n op v sl f on (w1.alloc (.cells #[.string n, .int .i64 op, .int .i64 v, .int .i64 sl, .string f, .bool on] 23))) := one_new _ _
    have K2 : Keep w (w1.alloc (.cells #[.string n, .int .i64 op, .int .i64 v, .int .i64 sl, .string f, .bool on] 23)) := K1.alloc' _
    clear hr hro
    go_wp2_with fail
    generalize hW1 : w1.alloc (.cells #[.string n, .int .i64 op, .int .i64 v, .int .i64 sl, .string f, .bool on] 23) = W1 at HR2 HB2 K2 ⊢
    clear hW1
    refine (check_any _ _ _ _ _ _ _).mono ?_
    rintro e w2 ⟨rfl, k2⟩
    have hb2 : w1.heap.size < W1.heap.size := HB2.out.facts.2.2
    have hr2 : w.heap.size < W1.heap.size := HR2.out.facts.2.2
    have HR3 : Hid (AtomAt w.heap.size ⟨#[]⟩ 0 0 0 ⟨#[]⟩ false w2) := HR2.out.below k2 hr2
    have HB3 : Hid (AtomAt w1.heap.size n op v sl f on w2) := HB2.out.below k2 hb2
    have K3 : Keep w w2 := K2.trans k2
    generalize chk n.data.toList op v sl f.data.toList on = c at HP ⊢
    by_cases hc0 : c = 0
    · subst hc0
      obtain ⟨hcB, hzB, _⟩ := HB3.out.facts
      have hn : n.size ≤ 20000 := by
        have h1 := ahead_len (a2L s.data.toList) [61, 60, 62]
        have h2 := ahead_len (a1L s.data.toList) [58]
        have h3 := ahead_len s.data.toList [43, 45]
        have h4 : n.data.toList.length = _ := congrArg List.length HRD.out.1
        rw [size_list] at h3 h4
        unfold nmL at h4
        unfold a2L at h4 h1
        unfold a1L at h4 h1 h2
        omega
      have hf : f.size ≤ 20000 := by
        have h3 := tail_len s.data.toList [43, 45]
        have h4 : f.data.toList.length = _ := congrArg List.length HRD.out.2.2.2.2.1
        rw [size_list] at h3 h4
        unfold flL at h4
        rw [List.length_drop] at h4
        omega
      have HI : Mid w w.heap.size w1.heap.size n f op v sl on w2 := ⟨HB3.out, HR3.out, K3⟩
      go_wp2_with fail
      go_region_with (go_at_call 51; refine (clone_mid _ _ ?_ w w.heap.size w1.heap.size n f op v sl on ?_).mono ?_; assumption; (first | exact HI | exact HI.drew); rintro e w' ⟨rfl, hcB, hzB, HI⟩)
      all_goals
        obtain ⟨hcR, hzR, hlR⟩ := HI.2.1.facts
        have hne : w.heap.size ≠ w1.heap.size := by omega
        go_wp2_with fail
      all_goals
        obtain ⟨hW, hKW⟩ := mid_last HI hz1
        have HW : Hid (AtomAt w.heap.size n op v sl f on ((((((((w'.setCell ⟨w1.heap.size, 0, none⟩ (.string n)).setCell ⟨w1.heap.size, 4, none⟩ (.string f)).setCell ⟨w.heap.size, 0, none⟩ (.string n)).setCell ⟨w.heap.size, 1, none⟩ (.int .i64 op)).setCell ⟨w.heap.size, 2, none⟩ (.int .i64 v)).setCell ⟨w.heap.size, 3, none⟩ (.int .i64 sl)).setCell ⟨w.heap.size, 4, none⟩ (.string f)).setCell ⟨w.heap.size, 5, none⟩ (.bool on))) := hW
        have KW : Hid (Keep w ((((((((w'.setCell ⟨w1.heap.size, 0, none⟩ (.string n)).setCell ⟨w1.heap.size, 4, none⟩ (.string f)).setCell ⟨w.heap.size, 0, none⟩ (.string n)).setCell ⟨w.heap.size, 1, none⟩ (.int .i64 op)).setCell ⟨w.heap.size, 2, none⟩ (.int .i64 v)).setCell ⟨w.heap.size, 3, none⟩ (.int .i64 sl)).setCell ⟨w.heap.size, 4, none⟩ (.string f)).setCell ⟨w.heap.size, 5, none⟩ (.bool on))) := hKW
        clear hW hKW
        generalize ((((((((w'.setCell ⟨w1.heap.size, 0, none⟩ (.string n)).setCell ⟨w1.heap.size, 4, none⟩ (.string f)).setCell ⟨w.heap.size, 0, none⟩ (.string n)).setCell ⟨w.heap.size, 1, none⟩ (.int .i64 op)).setCell ⟨w.heap.size, 2, none⟩ (.int .i64 v)).setCell ⟨w.heap.size, 3, none⟩ (.int .i64 sl)).setCell ⟨w.heap.size, 4, none⟩ (.string f)).setCell ⟨w.heap.size, 5, none⟩ (.bool on)) = W at HW KW ⊢
        obtain ⟨hcW, _, _⟩ := HW.out.facts
        exact bodyPost_ret (v := .tuple #[.agg #[.string n, .int .i64 op, .int .i64 v, .int .i64 sl, .string f, .bool on], .int .i64 0]) (by simp [results, Tryz.results149, go_sem, hcW]) rfl ⟨n, f, op, v, sl, on, by rw [HP.out], fun _ => HRD.out, fun e => absurd HP.out e, KW.out⟩
    · have hcn : c ≠ 0 := hc0
      have HCN : Hid (c ≠ 0) := hc0
      have hc' : (c != 0) = true := by simp [hc0]
      clear hc0 hcn
      obtain ⟨hcR, hzR, _⟩ := HR3.out.facts
      have HW : Hid (AtomAt w.heap.size ⟨#[]⟩ 0 0 0 ⟨#[]⟩ false ((((((w2.setCell ⟨w.heap.size, 0, none⟩ (.string ⟨#[]⟩)).setCell ⟨w.heap.size, 1, none⟩ (.int .i64 0)).setCell ⟨w.heap.size, 2, none⟩ (.int .i64 0)).setCell ⟨w.heap.size, 3, none⟩ (.int .i64 0)).setCell ⟨w.heap.size, 4, none⟩ (.string ⟨#[]⟩)).setCell ⟨w.heap.size, 5, none⟩ (.bool false))) := heap_set (heap_set (heap_set (heap_set (heap_set (heap_set HR3.out 0 _) 1 _) 2 _) 3 _) 4 _) 5 _
      have KW : Hid (Keep w ((((((w2.setCell ⟨w.heap.size, 0, none⟩ (.string ⟨#[]⟩)).setCell ⟨w.heap.size, 1, none⟩ (.int .i64 0)).setCell ⟨w.heap.size, 2, none⟩ (.int .i64 0)).setCell ⟨w.heap.size, 3, none⟩ (.int .i64 0)).setCell ⟨w.heap.size, 4, none⟩ (.string ⟨#[]⟩)).setCell ⟨w.heap.size, 5, none⟩ (.bool false))) := (((((Keep.set (p := ⟨w.heap.size, 0, none⟩) K3 (Nat.le_refl _) _).set (p := ⟨w.heap.size, 1, none⟩) (Nat.le_refl _) _).set (p := ⟨w.heap.size, 2, none⟩) (Nat.le_refl _) _).set (p := ⟨w.heap.size, 3, none⟩) (Nat.le_refl _) _).set (p := ⟨w.heap.size, 4, none⟩) (Nat.le_refl _) _).set (p := ⟨w.heap.size, 5, none⟩) (Nat.le_refl _) _
      go_wp2_with fail
      generalize ((((((w2.setCell ⟨w.heap.size, 0, none⟩ (.string ⟨#[]⟩)).setCell ⟨w.heap.size, 1, none⟩ (.int .i64 0)).setCell ⟨w.heap.size, 2, none⟩ (.int .i64 0)).setCell ⟨w.heap.size, 3, none⟩ (.int .i64 0)).setCell ⟨w.heap.size, 4, none⟩ (.string ⟨#[]⟩)).setCell ⟨w.heap.size, 5, none⟩ (.bool false)) = W at HW KW ⊢
      obtain ⟨hcW, _, _⟩ := HW.out.facts
      have hcn := HCN.out
      exact bodyPost_ret (v := .tuple #[.agg #[.string ⟨#[]⟩, .int .i64 0, .int .i64 0, .int .i64 0, .string ⟨#[]⟩, .bool false], .int .i64 c]) (by simp [results, Tryz.results149, go_sem, hcW]) rfl ⟨⟨#[]⟩, ⟨#[]⟩, 0, 0, 0, false, by rw [HP.out], fun e => absurd (HP.out.symm.trans e) (hcn), fun _ => ⟨rfl, rfl, rfl, rfl, rfl, rfl⟩, KW.out⟩

theorem parse_any (s : ByteArray) (w : World) (hE : Env w) :
    Calls Tryz.prog 149 #[.string s] w fun e w' => ParseDone s.data.toList w e w' := by
  by_cases h : 20000 < s.size
  · exact parse_long s w h
  · exact parse_short s w hE (by omega)
end Go.Proofs.YtnagpmilagdjeaaGreatDoor
