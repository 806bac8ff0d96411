/- atom.readVersion, read and Parse answer as the plain functions say, of every text; premises: what the program lays. -/
import Derived.Test.YtnagpmilagdjeaaGreatDoorAtomRead
namespace Go.Proofs.YtnagpmilagdjeaaGreatDoor
open Go.RowKit

theorem verOp_one {t : List UInt8} (h : Lib.hasPrefix t [61] = true) : verOp t = 1 := by
  unfold verOp; unfold Lib.hasPrefix at h; rw [h]; rfl
theorem verOp_two {t : List UInt8} (h1 : Lib.hasPrefix t [61] = false) (h : Lib.hasPrefix t [62, 61] = true) : verOp t = 2 := by
  unfold verOp; unfold Lib.hasPrefix at h1 h; rw [h1, h]; rfl
theorem verOp_three {t : List UInt8} (h1 : Lib.hasPrefix t [61] = false) (h2 : Lib.hasPrefix t [62, 61] = false) (h : Lib.hasPrefix t [60] = true) : verOp t = 3 := by
  unfold verOp; unfold Lib.hasPrefix at h1 h2 h; rw [h1, h2, h]; rfl
theorem verOp_none {t : List UInt8} (h1 : Lib.hasPrefix t [61] = false) (h2 : Lib.hasPrefix t [62, 61] = false) (h : Lib.hasPrefix t [60] = false) : verOp t = 0 := by
  unfold verOp; unfold Lib.hasPrefix at h1 h2 h; rw [h1, h2, h]; rfl
theorem trim_len (t p : List UInt8) : (Lib.trimPrefix t p).length ≤ t.length := by
  unfold Lib.trimPrefix; split
  · simp
  · exact Nat.le_refl _

theorem trim_at {t p : List UInt8} (h : Lib.hasPrefix t p = true) : Lib.trimPrefix t p = t.drop p.length := by
  unfold Lib.trimPrefix; rw [if_pos h]
theorem verDig_of {t : List UInt8} {k : Int} {j : Nat} (h : verOp t = k) (hj : j = if k = 2 then 2 else 1) : verDig t = t.drop j := by
  unfold verDig; rw [h, hj]; split <;> rfl
theorem verOk_of {t : List UInt8} (ht : t ≠ []) (h : verOp t ≠ 0) : verOk t = numB (verDig t) := by
  unfold verOk; rw [decide_eq_false ht, decide_eq_true h]; rfl
/-- The blocks of what is laid lie ahead of b. -/
def Old (b : Nat) : Prop := 0 < b ∧ 2 < b ∧ 3 < b ∧ 4 < b
theorem Env.below {w w' : World} {b : Nat} (h : Env w) (k : Below b w w') (o : Old b) : Env w' := by
  obtain ⟨h1, ⟨h2, h3⟩, ⟨h4, t, p, h5⟩, ⟨h6, u, q, h7⟩⟩ := h
  obtain ⟨o1, o2, o3, o4⟩ := o
  have c : ∀ g i, g < b → w'.cell? ⟨g, i, none⟩ = w.cell? ⟨g, i, none⟩ := fun g i hg => k.cell (p := ⟨g, i, none⟩) hg
  refine ⟨⟨Nat.lt_of_lt_of_le h1.1 k.size, (c _ _ o1).trans h1.2.1, (c _ _ o1).trans h1.2.2.1, (c _ _ o1).trans h1.2.2.2⟩, ⟨Nat.lt_of_lt_of_le h2 k.size, var?_below k named_pow10 o2 h3⟩, ⟨Nat.lt_of_lt_of_le h4 k.size, t, p, ?_⟩, ⟨Nat.lt_of_lt_of_le h6 k.size, u, q, ?_⟩⟩
  · exact (c _ _ o3).trans h5
  · exact (c _ _ o4).trans h7

/-- What a round that has found its sign does: the number behind it is read. -/
def VerDone (b : Nat) (n f : ByteArray) (sl : Int) (on : Bool) (t : List UInt8) (w : World) (e : Ending) (w' : World) : Prop :=
  e = .returned (.bool (verOk t)) ∧ (∃ op' v' : Int, AtomAt b n op' v' sl f on w' ∧ (verOk t = true → op' = verOp t ∧ v' = numV (verDig t))) ∧ Below b w w'

set_option maxHeartbeats 4000000 in
theorem readVersion_some (b : Nat) (n f : ByteArray) (op v sl : Int) (on : Bool) (t : ByteArray) (w : World) (h : AtomAt b n op v sl f on w) (hE : Env w) (hs : t.size ≤ 20000) (ht : t.data.toList ≠ []) (ho : Old b) :
    Calls Tryz.prog 211 #[.pointer (some ⟨b, 0, none⟩), .string t] w fun e w' => VerDone b n f sl on t.data.toList w e w' := by
  have he := empty_false ht
  have hb : b < w.heap.size := h.facts.2.2
  obtain ⟨hc, hz, _⟩ := h.facts
  have H : Hid (AtomAt b n op v sl f on w) := h
  have HE : Hid (Env w) := hE
  have HT : Hid (t.data.toList ≠ []) := ht
  have hl := size_list t
  have HL : Hid (t.data.toList.length = t.size) := hl
  have s1 := hE.1.2.1
  have s2 := hE.1.2.2.1
  have s3 := hE.1.2.2.2
  clear ht h hE hl
  go_enter Tryz.func211, Tryz.ntmps211
  go_wp2_with fail
  go_loopg [5, 6, 7] 3 (fun g s5 _ _ wx => wx = w ∧ ((g = 3 ∧ s5 = .int .i64 1) ∨ (g = 2 ∧ s5 = .int .i64 2 ∧ Hid (Lib.hasPrefix t.data.toList [61] = false)) ∨ (g = 1 ∧ s5 = .int .i64 3 ∧ Hid (Lib.hasPrefix t.data.toList [61] = false) ∧ Hid (Lib.hasPrefix t.data.toList [62, 61] = false)) ∨ (g = 0 ∧ s5 = .int .i64 4 ∧ Hid (Lib.hasPrefix t.data.toList [61] = false) ∧ Hid (Lib.hasPrefix t.data.toList [62, 61] = false) ∧ Hid (Lib.hasPrefix t.data.toList [60] = false))))
  case atStart => exact ⟨rfl, Or.inl ⟨rfl, rfl⟩⟩
  case round =>
    obtain ⟨rfl, hcase⟩ := hrel
    rcases hcase with ⟨rfl, rfl⟩ | ⟨rfl, rfl, p1⟩ | ⟨rfl, rfl, p1, p2⟩ | ⟨rfl, rfl, p1, p2, p3⟩
    · cases hp : Lib.hasPrefix t.data.toList [61]
      · have HP : Hid (Lib.hasPrefix t.data.toList [61] = false) := hp
        clear hp
        go_wp2_with (go_at_call 101; refine (Tryz.strings_CutPrefix _ _ _).mono ?_; rintro e w' ⟨rfl, hw⟩; rw [hw, HP.out]; clear hw)
        go_roundg 2
        case measure => omega
        case rel => exact ⟨rfl, Or.inr (Or.inl ⟨rfl, rfl, HP⟩)⟩
      · have HP : Hid (Lib.hasPrefix t.data.toList [61] = true) := hp
        have HV : Hid (verOp t.data.toList = 1) := verOp_one HP.out
        have HD : Hid (verDig t.data.toList = Lib.trimPrefix t.data.toList [61]) := by show _ = _; rw [verDig_of HV.out rfl, trim_at HP.out]; rfl
        have HO : Hid (verOk t.data.toList = numB (Lib.trimPrefix t.data.toList [61])) := by show _ = _; rw [verOk_of HT.out (by rw [HV.out]; decide), HD.out]
        have hx : (ByteArray.mk (Lib.trimPrefix t.data.toList [61]).toArray).size ≤ 20000 := by rw [mk_size]; have := trim_len t.data.toList [61]; rw [HL.out] at this; omega
        have HX : Hid ((ByteArray.mk (Lib.trimPrefix t.data.toList [61]).toArray).size ≤ 20000) := hx
        clear hp hx
        go_wp2_with (go_at_call 101; refine (Tryz.strings_CutPrefix _ _ _).mono ?_; rintro e w' ⟨rfl, hw⟩; rw [hw, HP.out]; clear hw)
        refine (number_any (ByteArray.mk (Lib.trimPrefix t.data.toList [61]).toArray) _ (HE.out.below (below_set wr b 1 _) ho) HX.out).mono ?_
        rintro e w1 ⟨k, rfl, hk, k1⟩
        have H1 : Hid (AtomAt b n 1 v sl f on w1) := AtomAt.below (heap_set H.out 1 _) k1 (by simpa [World.setCell] using hb)
        obtain ⟨hc1, hz1, _⟩ := H1.out.facts
        have kk : Below b wr w1 := (below_set wr b 1 _).trans (k1.mono (by simp [World.setCell]; omega))
        have HK : Hid (numB (Lib.trimPrefix t.data.toList [61]) = true → k = numV (Lib.trimPrefix t.data.toList [61])) := hk
        clear hk hc hz
        go_wp2_with fail
        go_ret
        exact ⟨ret_bool HO.out.symm, ⟨1, k, heap_set H1.out 2 _, fun e => ⟨HV.out.symm, by rw [HD.out]; exact HK.out (by rw [← HO.out]; exact e)⟩⟩, kk.trans (below_set w1 b 2 _)⟩
    · cases hp : Lib.hasPrefix t.data.toList [62, 61]
      · have HP : Hid (Lib.hasPrefix t.data.toList [62, 61] = false) := hp
        clear hp
        go_wp2_with (go_at_call 101; refine (Tryz.strings_CutPrefix _ _ _).mono ?_; rintro e w' ⟨rfl, hw⟩; rw [hw, HP.out]; clear hw)
        go_roundg 1
        case measure => omega
        case rel => exact ⟨rfl, Or.inr (Or.inr (Or.inl ⟨rfl, rfl, p1, HP⟩))⟩
      · have HP : Hid (Lib.hasPrefix t.data.toList [62, 61] = true) := hp
        have HV : Hid (verOp t.data.toList = 2) := verOp_two p1.out HP.out
        have HD : Hid (verDig t.data.toList = Lib.trimPrefix t.data.toList [62, 61]) := by show _ = _; rw [verDig_of HV.out rfl, trim_at HP.out]; rfl
        have HO : Hid (verOk t.data.toList = numB (Lib.trimPrefix t.data.toList [62, 61])) := by show _ = _; rw [verOk_of HT.out (by rw [HV.out]; decide), HD.out]
        have hx : (ByteArray.mk (Lib.trimPrefix t.data.toList [62, 61]).toArray).size ≤ 20000 := by rw [mk_size]; have := trim_len t.data.toList [62, 61]; rw [HL.out] at this; omega
        have HX : Hid ((ByteArray.mk (Lib.trimPrefix t.data.toList [62, 61]).toArray).size ≤ 20000) := hx
        clear hp hx
        go_wp2_with (go_at_call 101; refine (Tryz.strings_CutPrefix _ _ _).mono ?_; rintro e w' ⟨rfl, hw⟩; rw [hw, HP.out]; clear hw)
        refine (number_any (ByteArray.mk (Lib.trimPrefix t.data.toList [62, 61]).toArray) _ (HE.out.below (below_set wr b 1 _) ho) HX.out).mono ?_
        rintro e w1 ⟨k, rfl, hk, k1⟩
        have H1 : Hid (AtomAt b n 2 v sl f on w1) := AtomAt.below (heap_set H.out 1 _) k1 (by simpa [World.setCell] using hb)
        obtain ⟨hc1, hz1, _⟩ := H1.out.facts
        have kk : Below b wr w1 := (below_set wr b 1 _).trans (k1.mono (by simp [World.setCell]; omega))
        have HK : Hid (numB (Lib.trimPrefix t.data.toList [62, 61]) = true → k = numV (Lib.trimPrefix t.data.toList [62, 61])) := hk
        clear hk hc hz
        go_wp2_with fail
        go_ret
        exact ⟨ret_bool HO.out.symm, ⟨2, k, heap_set H1.out 2 _, fun e => ⟨HV.out.symm, by rw [HD.out]; exact HK.out (by rw [← HO.out]; exact e)⟩⟩, kk.trans (below_set w1 b 2 _)⟩
    · cases hp : Lib.hasPrefix t.data.toList [60]
      · have HP : Hid (Lib.hasPrefix t.data.toList [60] = false) := hp
        clear hp
        go_wp2_with (go_at_call 101; refine (Tryz.strings_CutPrefix _ _ _).mono ?_; rintro e w' ⟨rfl, hw⟩; rw [hw, HP.out]; clear hw)
        go_roundg 0
        case measure => omega
        case rel => exact ⟨rfl, Or.inr (Or.inr (Or.inr ⟨rfl, rfl, p1, p2, HP⟩))⟩
      · have HP : Hid (Lib.hasPrefix t.data.toList [60] = true) := hp
        have HV : Hid (verOp t.data.toList = 3) := verOp_three p1.out p2.out HP.out
        have HD : Hid (verDig t.data.toList = Lib.trimPrefix t.data.toList [60]) := by show _ = _; rw [verDig_of HV.out rfl, trim_at HP.out]; rfl
        have HO : Hid (verOk t.data.toList = numB (Lib.trimPrefix t.data.toList [60])) := by show _ = _; rw [verOk_of HT.out (by rw [HV.out]; decide), HD.out]
        have hx : (ByteArray.mk (Lib.trimPrefix t.data.toList [60]).toArray).size ≤ 20000 := by rw [mk_size]; have := trim_len t.data.toList [60]; rw [HL.out] at this; omega
        have HX : Hid ((ByteArray.mk (Lib.trimPrefix t.data.toList [60]).toArray).size ≤ 20000) := hx
        clear hp hx
        go_wp2_with (go_at_call 101; refine (Tryz.strings_CutPrefix _ _ _).mono ?_; rintro e w' ⟨rfl, hw⟩; rw [hw, HP.out]; clear hw)
        refine (number_any (ByteArray.mk (Lib.trimPrefix t.data.toList [60]).toArray) _ (HE.out.below (below_set wr b 1 _) ho) HX.out).mono ?_
        rintro e w1 ⟨k, rfl, hk, k1⟩
        have H1 : Hid (AtomAt b n 3 v sl f on w1) := AtomAt.below (heap_set H.out 1 _) k1 (by simpa [World.setCell] using hb)
        obtain ⟨hc1, hz1, _⟩ := H1.out.facts
        have kk : Below b wr w1 := (below_set wr b 1 _).trans (k1.mono (by simp [World.setCell]; omega))
        have HK : Hid (numB (Lib.trimPrefix t.data.toList [60]) = true → k = numV (Lib.trimPrefix t.data.toList [60])) := hk
        clear hk hc hz
        go_wp2_with fail
        go_ret
        exact ⟨ret_bool HO.out.symm, ⟨3, k, heap_set H1.out 2 _, fun e => ⟨HV.out.symm, by rw [HD.out]; exact HK.out (by rw [← HO.out]; exact e)⟩⟩, kk.trans (below_set w1 b 2 _)⟩
    · have HO : Hid (verOk t.data.toList = false) := by show _ = _; unfold verOk; rw [decide_eq_false HT.out, verOp_none p1.out p2.out p3.out]; rfl
      go_wp2
      go_ret
      exact ⟨ret_bool HO.out.symm, ⟨op, v, H.out, fun e => by (rw [HO.out] at e; cases e)⟩, Below.refl _ _⟩
end Go.Proofs.YtnagpmilagdjeaaGreatDoor
