/- atom.versionMayBe, atom.Check and atom.Fits answer as the plain functions verB, chk and fitB say, of any atom; nothing that was there is changed. -/
import Derived.Test.YtnagpmilagdjeaaGreatDoorAtomName
namespace Go.Proofs.YtnagpmilagdjeaaGreatDoor
open Go.RowKit

def Keep (w w' : World) : Prop := Below w.heap.size w w'
theorem Keep.refl (w : World) : Keep w w := Below.refl _ _
theorem Keep.trans {a b c : World} (h : Keep a b) (k : Keep b c) : Keep a c := Below.trans h (Below.mono k h.size)
theorem Keep.alloc (w : World) (o : Obj) : Keep w (w.alloc o) := (Below.refl _ _).alloc (Nat.le_refl _) _
theorem Keep.alloc' {a w : World} (h : Keep a w) (o : Obj) : Keep a (w.alloc o) := h.trans (Keep.alloc w o)
theorem Keep.drew {a w : World} (h : Keep a w) : Keep a w.drew := Below.drew h
theorem Keep.drewN {a w : World} (h : Keep a w) : ∀ n, Keep a (w.drewN n)
  | 0 => h
  | n + 1 => by rw [World.drewN]; exact Keep.drew (Keep.drewN h n)
theorem Keep.set {a w : World} (h : Keep a w) {p : Addr} (hp : a.heap.size ≤ p.block) (u : Value) : Keep a (w.setCell p u) := Below.setCell h hp u
theorem Keep.size {w w' : World} (h : Keep w w') : w.heap.size ≤ w'.heap.size := Below.size h
theorem Keep.cells {W w1 : World} (hb : Keep W w1) : (∀ b o, b < W.heap.size → w1.cell? ⟨b, o, none⟩ = W.cell? ⟨b, o, none⟩) ∧ (∀ b o, b < W.heap.size → w1.frozen? ⟨b, o, none⟩ = W.frozen? ⟨b, o, none⟩) :=
  ⟨fun b o h => Below.cell hb (p := ⟨b, o, none⟩) h, fun b o h => Below.frozen hb (p := ⟨b, o, none⟩) h⟩

theorem version_any (n f : ByteArray) (op v sl : Int) (on : Bool) (w : World) :
    Calls Tryz.prog 122 #[.agg #[.string n, .int .i64 op, .int .i64 v, .int .i64 sl, .string f, .bool on]] w fun e w' => e = .returned (.bool (verB op v)) ∧ Keep w w' := by
  by_cases h : op = 0
  · have h' : (op == 0) = true := by simp [h]
    have H : Hid (verB op v = (v == 0)) := by show verB op v = (v == 0); unfold verB; rw [if_pos h]; rfl
    clear h
    go_enter Tryz.func122, Tryz.ntmps122
    go_wp2
    go_ret
    exact ⟨ret_bool H.out.symm, Keep.alloc _ _⟩
  · have h' : (op == 0) = false := by simp [h]
    have H : Hid (verB op v = (decide (1 ≤ v) && decide (v ≤ 99))) := by show verB op v = _; unfold verB; rw [if_neg h]
    clear h
    by_cases h1 : 1 ≤ v
    · go_enter Tryz.func122, Tryz.ntmps122
      go_wp2
      go_ret
      exact ⟨ret_bool (by rw [H.out]; simp [h1]), Keep.alloc _ _⟩
    · go_enter Tryz.func122, Tryz.ntmps122
      go_wp2
      go_ret
      exact ⟨ret_bool (by rw [H.out, decide_eq_false (by omega)]; rfl), Keep.alloc _ _⟩

theorem fits_any (n f : ByteArray) (op v sl : Int) (on : Bool) (ver slot : Int) (w : World) :
    Calls Tryz.prog 123 #[.agg #[.string n, .int .i64 op, .int .i64 v, .int .i64 sl, .string f, .bool on], .int .i64 ver, .int .i64 slot] w fun e w' => e = .returned (.bool (fitB op v sl ver slot)) ∧ Keep w w' := by
  by_cases h : sl ≠ 0 ∧ sl ≠ slot
  · have h0 : (sl != 0) = true := by simp [h.1]
    have h1 : (sl != slot) = true := by simp [h.2]
    have H : Hid (fitB op v sl ver slot = false) := by show fitB op v sl ver slot = false; unfold fitB; rw [if_pos h]
    clear h
    go_enter Tryz.func123, Tryz.ntmps123
    go_wp2
    go_ret
    exact ⟨ret_bool H.out.symm, Keep.alloc _ _⟩
  · have H : Hid (fitB op v sl ver slot = if op = 1 then decide (ver = v) else if op = 2 then decide (v ≤ ver) else if op = 3 then decide (ver < v) else true) := by show fitB op v sl ver slot = _; unfold fitB; rw [if_neg h]
    have hs : (sl != 0) = false ∨ (sl != 0) = true ∧ (sl != slot) = false := by
      by_cases e : sl = 0
      · left; simp [e]
      · right; exact ⟨by simp [e], by simp; exact Decidable.byContradiction fun e' => h ⟨e, e'⟩⟩
    clear h
    have ho : ((op == 1) = true ∧ Hid (fitB op v sl ver slot = (ver == v))) ∨ ((op == 1) = false ∧ (op == 2) = true ∧ Hid (fitB op v sl ver slot = decide (v ≤ ver))) ∨ ((op == 1) = false ∧ (op == 2) = false ∧ (op == 3) = true ∧ Hid (fitB op v sl ver slot = decide (ver < v))) ∨ ((op == 1) = false ∧ (op == 2) = false ∧ (op == 3) = false ∧ Hid (fitB op v sl ver slot = true)) := by
      by_cases e1 : op = 1
      · left; refine ⟨by simp [e1], ?_⟩; show _ = _; rw [H.out, if_pos e1]; rfl
      · by_cases e2 : op = 2
        · right; left; refine ⟨by simp [e2], by simp [e2], ?_⟩; show _ = _; rw [H.out, if_neg e1, if_pos e2]
        · by_cases e3 : op = 3
          · right; right; left; refine ⟨by simp [e3], by simp [e3], by simp [e3], ?_⟩; show _ = _; rw [H.out, if_neg e1, if_neg e2, if_pos e3]
          · right; right; right; refine ⟨by simp [e1], by simp [e2], by simp [e3], ?_⟩; show _ = _; rw [H.out, if_neg e1, if_neg e2, if_neg e3]
    clear H
    rcases hs with hs | ⟨hs, hs2⟩ <;> rcases ho with ⟨o1, H⟩ | ⟨o1, o2, H⟩ | ⟨o1, o2, o3, H⟩ | ⟨o1, o2, o3, H⟩
    all_goals
      go_enter Tryz.func123, Tryz.ntmps123
      go_wp2
      go_ret
      exact ⟨ret_bool H.out.symm, Keep.alloc _ _⟩

theorem empty_false {f : ByteArray} (h : f.data.toList ≠ []) : f.toList.isEmpty = false := by
  rw [Go.Lib.toList_data]
  cases e : f.data.toList with
  | nil => exact absurd e h
  | cons _ _ => rfl
theorem empty_true {f : ByteArray} (h : f.data.toList = []) : f.toList.isEmpty = true := by
  rw [Go.Lib.toList_data, h]; rfl

theorem chk_form (n : List UInt8) (op v sl : Int) (f : List UInt8) (on : Bool) (hn : nameB n = true) (hf : f = [] ∨ nameB f = true) :
    (op < 0 ∧ Hid (chk n op v sl f on = 3)) ∨ (0 ≤ op ∧ 4 ≤ op ∧ Hid (chk n op v sl f on = 3)) ∨ (0 ≤ op ∧ op < 4 ∧ sl < 0 ∧ Hid (chk n op v sl f on = 3)) ∨ (0 ≤ op ∧ op < 4 ∧ 0 ≤ sl ∧ 9 < sl ∧ Hid (chk n op v sl f on = 3))
    ∨ (0 ≤ op ∧ op < 4 ∧ 0 ≤ sl ∧ sl ≤ 9 ∧ Hid (verB op v = false) ∧ Hid (chk n op v sl f on = 3)) ∨ (0 ≤ op ∧ op < 4 ∧ 0 ≤ sl ∧ sl ≤ 9 ∧ Hid (verB op v = true) ∧ Hid (chk n op v sl f on = if on = true ∧ f = [] then 4 else 0)) := by
  have h1 : ¬ (nameB n = false ∨ (f ≠ [] ∧ nameB f = false)) := by
    rintro (h | ⟨h, h'⟩)
    · rw [hn] at h; cases h
    · rcases hf with hf | hf
      · exact h hf
      · rw [hf] at h'; cases h'
  have e : chk n op v sl f on = if op < 0 ∨ 4 ≤ op ∨ sl < 0 ∨ 9 < sl ∨ verB op v = false then 3 else if on = true ∧ f = [] then 4 else 0 := by
    unfold chk; rw [if_neg h1]
  have e3 : (op < 0 ∨ 4 ≤ op ∨ sl < 0 ∨ 9 < sl ∨ verB op v = false) → Hid (chk n op v sl f on = 3) := fun h => by
    show _ = _; rw [e, if_pos h]
  by_cases a1 : op < 0
  · exact Or.inl ⟨a1, e3 (Or.inl a1)⟩
  · by_cases a2 : 4 ≤ op
    · exact Or.inr (Or.inl ⟨by omega, a2, e3 (Or.inr (Or.inl a2))⟩)
    · by_cases a3 : sl < 0
      · exact Or.inr (Or.inr (Or.inl ⟨by omega, by omega, a3, e3 (Or.inr (Or.inr (Or.inl a3)))⟩))
      · by_cases a4 : 9 < sl
        · exact Or.inr (Or.inr (Or.inr (Or.inl ⟨by omega, by omega, by omega, a4, e3 (Or.inr (Or.inr (Or.inr (Or.inl a4))))⟩)))
        · cases a5 : verB op v
          · exact Or.inr (Or.inr (Or.inr (Or.inr (Or.inl ⟨by omega, by omega, by omega, by omega, rfl, e3 (Or.inr (Or.inr (Or.inr (Or.inr a5))))⟩))))
          · refine Or.inr (Or.inr (Or.inr (Or.inr (Or.inr ⟨by omega, by omega, by omega, by omega, rfl, ?_⟩))))
            show _ = _
            rw [e, if_neg]
            rintro (h | h | h | h | h)
            · exact a1 h
            · exact a2 h
            · exact a3 h
            · exact a4 h
            · rw [a5] at h; cases h

set_option maxHeartbeats 1000000 in
theorem check_bad (n f : ByteArray) (op v sl : Int) (on : Bool) (w : World) (h : nameB n.data.toList = false ∨ (f.data.toList ≠ [] ∧ nameB f.data.toList = false)) :
    Calls Tryz.prog 75 #[.agg #[.string n, .int .i64 op, .int .i64 v, .int .i64 sl, .string f, .bool on]] w fun e w' => e = .returned (.int .i64 (chk n.data.toList op v sl f.data.toList on)) ∧ Keep w w' := by
  have HC : Hid (chk n.data.toList op v sl f.data.toList on = 1) := by show _ = _; unfold chk; rw [if_pos h]
  cases hn : nameB n.data.toList
  · have HN : Hid (nameB n.data.toList = false) := hn
    clear hn h
    go_enter Tryz.func75, Tryz.ntmps75
    go_wp2_with (go_at_call 111; refine (name_any _ _).mono ?_; rintro e w' ⟨rfl, rfl⟩; rw [HN.out])
    go_ret
    exact ⟨ret_int HC.out.symm, Keep.alloc _ _⟩
  · have HN : Hid (nameB n.data.toList = true) := hn
    rw [hn] at h
    obtain ⟨h1, h2⟩ : f.data.toList ≠ [] ∧ nameB f.data.toList = false := h.resolve_left (by simp)
    have HF : Hid (nameB f.data.toList = false) := h2
    have hfe := empty_false h1
    clear hn h h1 h2
    go_enter Tryz.func75, Tryz.ntmps75
    go_wp2_with fail
    refine (name_any _ _).mono ?_
    rintro e w' ⟨rfl, hw⟩
    rw [HN.out, hw]
    clear hw
    go_wp2_with fail
    refine (name_any _ _).mono ?_
    rintro e w' ⟨rfl, hw⟩
    rw [HF.out, hw]
    clear hw
    go_wp2_with fail
    go_ret
    exact ⟨ret_int HC.out.symm, Keep.alloc _ _⟩

set_option maxHeartbeats 2000000 in
theorem check_empty (n f : ByteArray) (op v sl : Int) (on : Bool) (w : World) (hn : nameB n.data.toList = true) (hf : f.data.toList = []) :
    Calls Tryz.prog 75 #[.agg #[.string n, .int .i64 op, .int .i64 v, .int .i64 sl, .string f, .bool on]] w fun e w' => e = .returned (.int .i64 (chk n.data.toList op v sl f.data.toList on)) ∧ Keep w w' := by
  have hr := chk_form n.data.toList op v sl f.data.toList on hn (Or.inl hf)
  have HN : Hid (nameB n.data.toList = true) := hn
  have HF : Hid (f.data.toList = []) := hf
  have hfe := empty_true hf
  clear hn hf
  rcases hr with ⟨r1, HC⟩ | ⟨r1, r2, HC⟩ | ⟨r1, r2, r3, HC⟩ | ⟨r1, r2, r3, r4, HC⟩ | ⟨r1, r2, r3, r4, HV, HC⟩ | ⟨r1, r2, r3, r4, HV, HC⟩
  iterate 4
    · go_enter Tryz.func75, Tryz.ntmps75
      go_wp2_with (go_at_call 111; refine (name_any _ _).mono ?_; rintro e w' ⟨rfl, hw⟩; rw [HN.out, hw]; clear hw)
      go_ret
      exact ⟨ret_int HC.out.symm, Keep.alloc _ _⟩
  · go_enter Tryz.func75, Tryz.ntmps75
    go_wp2_with (first | (go_at_call 111; refine (name_any _ _).mono ?_; rintro e w' ⟨rfl, hw⟩; rw [HN.out, hw]; clear hw) | (go_at_call 122; refine (version_any _ _ _ _ _ _ _).mono ?_; rintro e w' ⟨rfl, hk⟩; rw [HV.out]; obtain ⟨hc, hz⟩ := hk.cells))
    go_ret
    exact ⟨ret_int HC.out.symm, (Keep.alloc _ _).trans (by assumption)⟩
  · cases on
    · have HC' : Hid (chk n.data.toList op v sl f.data.toList false = 0) := by show _ = _; rw [HC.out, if_neg (by simp)]
      clear HC
      go_enter Tryz.func75, Tryz.ntmps75
      go_wp2_with (first | (go_at_call 111; refine (name_any _ _).mono ?_; rintro e w' ⟨rfl, hw⟩; rw [HN.out, hw]; clear hw) | (go_at_call 122; refine (version_any _ _ _ _ _ _ _).mono ?_; rintro e w' ⟨rfl, hk⟩; rw [HV.out]; obtain ⟨hc, hz⟩ := hk.cells))
      go_ret
      exact ⟨ret_int HC'.out.symm, (Keep.alloc _ _).trans (by assumption)⟩
    · have HC' : Hid (chk n.data.toList op v sl f.data.toList true = 4) := by show _ = _; rw [HC.out, if_pos ⟨rfl, HF.out⟩]
      clear HC
      go_enter Tryz.func75, Tryz.ntmps75
      go_wp2_with (first | (go_at_call 111; refine (name_any _ _).mono ?_; rintro e w' ⟨rfl, hw⟩; rw [HN.out, hw]; clear hw) | (go_at_call 122; refine (version_any _ _ _ _ _ _ _).mono ?_; rintro e w' ⟨rfl, hk⟩; rw [HV.out]; obtain ⟨hc, hz⟩ := hk.cells))
      go_ret
      exact ⟨ret_int HC'.out.symm, (Keep.alloc _ _).trans (by assumption)⟩

set_option maxHeartbeats 2000000 in
theorem check_flag (n f : ByteArray) (op v sl : Int) (on : Bool) (w : World) (hn : nameB n.data.toList = true) (hf : nameB f.data.toList = true) :
    Calls Tryz.prog 75 #[.agg #[.string n, .int .i64 op, .int .i64 v, .int .i64 sl, .string f, .bool on]] w fun e w' => e = .returned (.int .i64 (chk n.data.toList op v sl f.data.toList on)) ∧ Keep w w' := by
  have hr := chk_form n.data.toList op v sl f.data.toList on hn (Or.inr hf)
  have HN : Hid (nameB n.data.toList = true) := hn
  have HF : Hid (nameB f.data.toList = true) := hf
  have hfe := empty_false (nameB_pos hf)
  clear hn hf
  rcases hr with ⟨r1, HC⟩ | ⟨r1, r2, HC⟩ | ⟨r1, r2, r3, HC⟩ | ⟨r1, r2, r3, r4, HC⟩ | ⟨r1, r2, r3, r4, HV, HC⟩ | ⟨r1, r2, r3, r4, HV, HC⟩
  iterate 4
    · go_enter Tryz.func75, Tryz.ntmps75
      go_wp2_with (go_at_call 111; refine (name_any _ _).mono ?_; rintro e w' ⟨rfl, hw⟩; first | rw [HN.out, hw] | rw [HF.out, hw]; clear hw)
      go_ret
      exact ⟨ret_int HC.out.symm, Keep.alloc _ _⟩
  · go_enter Tryz.func75, Tryz.ntmps75
    go_wp2_with (first | (go_at_call 111; refine (name_any _ _).mono ?_; rintro e w' ⟨rfl, hw⟩; first | rw [HN.out, hw] | rw [HF.out, hw]; clear hw) | (go_at_call 122; refine (version_any _ _ _ _ _ _ _).mono ?_; rintro e w' ⟨rfl, hk⟩; rw [HV.out]; obtain ⟨hc, hz⟩ := hk.cells))
    go_ret
    exact ⟨ret_int HC.out.symm, (Keep.alloc _ _).trans (by assumption)⟩
  · have HC' : Hid (chk n.data.toList op v sl f.data.toList on = 0) := by
      show _ = _
      rw [HC.out, if_neg]
      rintro ⟨_, h⟩
      exact nameB_pos HF.out h
    clear HC
    cases on
    all_goals
      go_enter Tryz.func75, Tryz.ntmps75
      go_wp2_with (first | (go_at_call 111; refine (name_any _ _).mono ?_; rintro e w' ⟨rfl, hw⟩; first | rw [HN.out, hw] | rw [HF.out, hw]; clear hw) | (go_at_call 122; refine (version_any _ _ _ _ _ _ _).mono ?_; rintro e w' ⟨rfl, hk⟩; rw [HV.out]; obtain ⟨hc, hz⟩ := hk.cells))
      go_ret
      exact ⟨ret_int HC'.out.symm, (Keep.alloc _ _).trans (by assumption)⟩

theorem check_any (n f : ByteArray) (op v sl : Int) (on : Bool) (w : World) :
    Calls Tryz.prog 75 #[.agg #[.string n, .int .i64 op, .int .i64 v, .int .i64 sl, .string f, .bool on]] w fun e w' => e = .returned (.int .i64 (chk n.data.toList op v sl f.data.toList on)) ∧ Keep w w' := by
  cases hn : nameB n.data.toList
  · exact check_bad n f op v sl on w (Or.inl hn)
  · by_cases hf : f.data.toList = []
    · exact check_empty n f op v sl on w hn hf
    · cases hg : nameB f.data.toList
      · exact check_bad n f op v sl on w (Or.inr ⟨hf, hg⟩)
      · exact check_flag n f op v sl on w hn hg
end Go.Proofs.YtnagpmilagdjeaaGreatDoor
