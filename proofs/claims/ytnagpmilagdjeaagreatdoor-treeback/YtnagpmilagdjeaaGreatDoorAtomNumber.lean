/- atom.number answers whether a text is a number as Itoa writes it, and which; premises: the tables and errors of strconv, as the program lays them. -/
import Derived.Test.YtnagpmilagdjeaaGreatDoorAtomPrint
import Derived.Lib.AtoiAllCases
import Derived.Lib.SlicesS
import Derived.WalkSmall
import Derived.Sort.Grow
namespace Go.Proofs.YtnagpmilagdjeaaGreatDoor
open Go.RowKit Go.Sort

/-- What the program lays, as the world holds it. -/
def Env (w : World) : Prop := Signs w ∧ (2 < w.heap.size ∧ Lib.TabIs Tryz.prog w "internal/strconv.uint64pow10" .u64 Lib.pow10Tab) ∧ (3 < w.heap.size ∧ ∃ t p, w.cell? ⟨3, 0, none⟩ = some (.iface t p)) ∧ (4 < w.heap.size ∧ ∃ t p, w.cell? ⟨4, 0, none⟩ = some (.iface t p))
theorem named_pow10 : Tryz.prog.globalNamed "internal/strconv.uint64pow10" = some 2 := by kernel_rfl
theorem Env.keep {w w' : World} (h : Env w) (k : Keep w w') : Env w' := by
  obtain ⟨h1, ⟨h2, h3⟩, ⟨h4, t, p, h5⟩, ⟨h6, u, q, h7⟩⟩ := h
  refine ⟨h1.keep k, ⟨Nat.lt_of_lt_of_le h2 k.size, var?_below k named_pow10 h2 h3⟩, ⟨Nat.lt_of_lt_of_le h4 k.size, t, p, ?_⟩, ⟨Nat.lt_of_lt_of_le h6 k.size, u, q, ?_⟩⟩
  · exact (k.cells.1 _ _ h4).trans h5
  · exact (k.cells.1 _ _ h6).trans h7
theorem ret_ib {n : Int} {a b : Bool} (h : a = b) : Ending.returned (.tuple #[.int .i64 n, .bool a]) = .returned (.tuple #[.int .i64 n, .bool b]) := by rw [h]
theorem keep_grow (w : World) (k : Nat) (os : Array Obj) : Keep w (grow (w.drewN k) os) :=
  ⟨rfl, rfl, rfl, by show w.heap.size ≤ (w.heap ++ os).size; simp, fun i hi => by show (w.heap ++ os)[i]? = _; rw [Array.getElem?_append_left hi]⟩

theorem atoi_bad (s : ByteArray) (w : World) (hE : Env w) (hs : s.size ≤ 20000) (h : ∀ v, Lib.atoiAll s.data.toList ≠ .ok v) :
    Calls Tryz.prog 170 #[.string s] w fun e w' => ∃ n p, e = .returned (.tuple #[.int .i64 n, .iface 217 (.pointer (some p))]) ∧ Keep w w' := by
  obtain ⟨_, _, ⟨_, t, p, h5⟩, ⟨_, u, q, h7⟩⟩ := hE
  rcases hh : Lib.atoiAll s.data.toList with v | _ | _
  · exact absurd hh (h v)
  · have c : Calls Tryz.prog 170 #[.string s] w fun e w' => ∃ N, e = .returned (.tuple #[.int .i64 (0), .iface 217 (.pointer (some ⟨N, 0, none⟩))]) ∧ w.heap.size ≤ N ∧ w'.heap[N]? = some (.cells #[.string ⟨#[65, 116, 111, 105]⟩, .string s, .iface t p] 235 (0, 0)) ∧ Below w.heap.size w w' :=
      Any.strconv_Atoi_syntax Tryz.laysC172 s (by omega) hh _ w h5 (Or.inr ⟨_, _, rfl⟩)
    refine c.mono ?_
    rintro e w' ⟨N, rfl, _, _, k⟩
    exact ⟨_, _, rfl, k⟩
  · have c : Calls Tryz.prog 170 #[.string s] w fun e w' => ∃ N, e = .returned (.tuple #[.int .i64 (Lib.atoiSat s.data.toList), .iface 217 (.pointer (some ⟨N, 0, none⟩))]) ∧ w.heap.size ≤ N ∧ w'.heap[N]? = some (.cells #[.string ⟨#[65, 116, 111, 105]⟩, .string s, .iface u q] 235 (0, 0)) ∧ Below w.heap.size w w' :=
      Any.strconv_Atoi_range Tryz.laysC172 s (by omega) hh _ w h7 (Or.inr ⟨_, _, rfl⟩)
    refine c.mono ?_
    rintro e w' ⟨N, rfl, _, _, k⟩
    exact ⟨_, _, rfl, k⟩

set_option maxHeartbeats 1000000 in
theorem number_any (s : ByteArray) (w : World) (hE : Env w) (hs : s.size ≤ 20000) :
    Calls Tryz.prog 120 #[.string s] w fun e w' => ∃ n : Int, e = .returned (.tuple #[.int .i64 n, .bool (numB s.data.toList)]) ∧ (numB s.data.toList = true → n = numV s.data.toList) ∧ Keep w w' := by
  by_cases hok : ∃ v, Lib.atoiAll s.data.toList = .ok v
  · obtain ⟨v, hv⟩ := hok
    have bd := Lib.atoiAll_bounds hv
    have HV : Hid (Lib.atoiAll s.data.toList = .ok v) := hv
    have HN : Hid (numV s.data.toList = v) := by show _ = _; unfold numV; rw [hv]
    have HE : Hid (Env w) := hE
    by_cases hi : Lib.itoa v = s.data.toList
    · have HB : Hid (numB s.data.toList = true) := by show _ = _; unfold numB; rw [hv]; simpa using hi
      have hq : (Lib.itoa v == s.toList) = true := by rw [Lib.toList_data]; simpa using hi
      clear hv hE hi
      go_enter Tryz.func120, Tryz.ntmps120
      go_wp2_with fail
      refine (Tryz.strconv_Atoi_ok s (by omega) v HV.out _).mono ?_
      rintro e w1 ⟨rfl, hw1⟩
      have k1 : Keep w w1 := by
        rcases hw1 with rfl | ⟨t, rfl⟩
        · exact Keep.refl _
        · exact Lib.bytesWorld_below _ _ _
      clear hw1
      go_wp2_with fail
      refine (Tryz.strconv_Itoa v bd.1 bd.2 _ (HE.out.keep k1).2.1.2).mono ?_
      rintro e w2 ⟨rfl, k, os, hw2⟩
      have k2 : Keep w w2 := k1.trans (hw2 ▸ keep_grow _ _ _)
      clear hw2
      go_wp2_with fail
      go_ret2
      exact ⟨_, ret_ib HB.out.symm, fun _ => HN.out.symm, k2⟩
    · have HB : Hid (numB s.data.toList = false) := by show _ = _; unfold numB; rw [hv]; simpa using hi
      have hq : (Lib.itoa v == s.toList) = false := by rw [Lib.toList_data]; simpa using hi
      clear hv hE hi
      go_enter Tryz.func120, Tryz.ntmps120
      go_wp2_with fail
      refine (Tryz.strconv_Atoi_ok s (by omega) v HV.out _).mono ?_
      rintro e w1 ⟨rfl, hw1⟩
      have k1 : Keep w w1 := by
        rcases hw1 with rfl | ⟨t, rfl⟩
        · exact Keep.refl _
        · exact Lib.bytesWorld_below _ _ _
      clear hw1
      go_wp2_with fail
      refine (Tryz.strconv_Itoa v bd.1 bd.2 _ (HE.out.keep k1).2.1.2).mono ?_
      rintro e w2 ⟨rfl, k, os, hw2⟩
      have k2 : Keep w w2 := k1.trans (hw2 ▸ keep_grow _ _ _)
      clear hw2
      go_wp2_with fail
      go_ret2
      exact ⟨_, ret_ib HB.out.symm, fun h => by (rw [HB.out] at h; cases h), k2⟩
  · have hno : ∀ v, Lib.atoiAll s.data.toList ≠ .ok v := fun v e => hok ⟨v, e⟩
    have HB : Hid (numB s.data.toList = false) := by
      show _ = _
      unfold numB
      rcases hh : Lib.atoiAll s.data.toList with v | _ | _
      · exact absurd hh (hno v)
      · rfl
      · rfl
    have HE : Hid (Env w) := hE
    have HNO : Hid (∀ v, Lib.atoiAll s.data.toList ≠ .ok v) := hno
    clear hok hE hno
    go_enter Tryz.func120, Tryz.ntmps120
    go_wp2_with fail
    refine (atoi_bad s _ HE.out hs HNO.out).mono ?_
    rintro e w1 ⟨n, p, rfl, k1⟩
    go_wp2_with fail
    go_ret2
    exact ⟨_, ret_ib HB.out.symm, fun h => by (rw [HB.out] at h; cases h), k1⟩
end Go.Proofs.YtnagpmilagdjeaaGreatDoor
