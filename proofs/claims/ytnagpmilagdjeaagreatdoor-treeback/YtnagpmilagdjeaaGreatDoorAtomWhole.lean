/- atom.read and atom.Parse answer as the plain functions say, of every text; premises: what the program lays. -/
import Derived.Test.YtnagpmilagdjeaaGreatDoorAtomParse
namespace Go.Proofs.YtnagpmilagdjeaaGreatDoor
open Go.RowKit

def flL (l : List UInt8) : List UInt8 := tailOf l [43, 45]
def a1L (l : List UInt8) : List UInt8 := ahead l [43, 45]
def slL (l : List UInt8) : List UInt8 := tailOf (a1L l) [58]
def a2L (l : List UInt8) : List UInt8 := ahead (a1L l) [58]
def veL (l : List UInt8) : List UInt8 := tailOf (a2L l) [61, 60, 62]
def nmL (l : List UInt8) : List UInt8 := ahead (a2L l) [61, 60, 62]
def readOk (l : List UInt8) : Bool := flagOk (flL l) && slotOk (slL l) && verOk (veL l)

theorem ahead_len (l m : List UInt8) : (ahead l m).length ≤ l.length := by
  unfold ahead; exact List.Sublist.length_le (List.takeWhile_sublist _)
theorem tail_len (l m : List UInt8) : (tailOf l m).length ≤ l.length := by
  unfold tailOf; exact List.Sublist.length_le (List.dropWhile_sublist _)
theorem asc3 : Asc (ByteArray.mk #[61, 60, 62]).data.toList ∧ Asc (ByteArray.mk #[58]).data.toList ∧ Asc (ByteArray.mk #[43, 45]).data.toList := by
  refine ⟨?_, ?_, ?_⟩
  · intro j b hb
    have : j = 0 ∨ j = 1 ∨ j = 2 ∨ 3 ≤ j := by omega
    rcases this with rfl | rfl | rfl | h
    · cases hb; decide
    · cases hb; decide
    · cases hb; decide
    · rw [List.getElem?_eq_none (by simpa using h)] at hb; cases hb
  · intro j b hb
    have : j = 0 ∨ 1 ≤ j := by omega
    rcases this with rfl | h
    · cases hb; decide
    · rw [List.getElem?_eq_none (by simpa using h)] at hb; cases hb
  · intro j b hb
    have : j = 0 ∨ j = 1 ∨ 2 ≤ j := by omega
    rcases this with rfl | rfl | h
    · cases hb; decide
    · cases hb; decide
    · rw [List.getElem?_eq_none (by simpa using h)] at hb; cases hb

theorem two_second (w : World) (o : Obj) (cs : Array Value) : ((w.alloc o).alloc (.cells cs 23)).heap[w.heap.size + 1]? = some (.cells cs 23 (0, 0)) := by
  show ((w.heap.push o).push _)[w.heap.size + 1]? = _
  rw [Array.getElem?_push, if_pos (by simp)]
theorem two_first (w : World) (o : Obj) (cs : Array Value) : ((w.alloc (.cells cs 23)).alloc o).heap[w.heap.size]? = some (.cells cs 23 (0, 0)) := by
  show ((w.heap.push _).push o)[w.heap.size]? = _
  rw [Array.getElem?_push, if_neg (by simp), Array.getElem?_push, if_pos rfl]

/-- What read answers. -/
def ReadDone (l : List UInt8) (w : World) (e : Ending) (w' : World) : Prop :=
  ∃ (n f : ByteArray) (op v sl : Int) (on : Bool), e = .returned (.tuple #[.agg #[.string n, .int .i64 op, .int .i64 v, .int .i64 sl, .string f, .bool on], .bool (readOk l)])
    ∧ (readOk l = true → n.data.toList = nmL l ∧ op = opV (veL l) ∧ v = verV (veL l) ∧ sl = slotV (slL l) ∧ f.data.toList = (flL l).drop 1 ∧ on = onV (flL l)) ∧ Keep w w'

set_option maxHeartbeats 1000000 in
theorem readVersion_any (b : Nat) (n f : ByteArray) (sl : Int) (on : Bool) (t : ByteArray) (w : World) (h : AtomAt b n 0 0 sl f on w) (hE : Env w) (hs : t.size ≤ 20000) (ho : Old b) :
    Calls Tryz.prog 211 #[.pointer (some ⟨b, 0, none⟩), .string t] w fun e w' => e = .returned (.bool (verOk t.data.toList)) ∧ (∃ op' v' : Int, AtomAt b n op' v' sl f on w' ∧ (verOk t.data.toList = true → op' = opV t.data.toList ∧ v' = verV t.data.toList)) ∧ Below b w w' := by
  by_cases ht : t.data.toList = []
  · have he := empty_true ht
    have HF : Hid (verOk t.data.toList = true) := by show _ = _; simp [verOk, ht]
    have HT : Hid (t.data.toList = []) := ht
    clear ht
    go_enter Tryz.func211, Tryz.ntmps211
    go_wp2
    go_ret
    exact ⟨ret_bool HF.out.symm, ⟨0, 0, h, fun _ => by rw [HT.out]; exact ⟨rfl, rfl⟩⟩, Below.refl _ _⟩
  · refine (readVersion_some b n f 0 0 sl on t w h hE hs ht ho).mono ?_
    rintro e w' ⟨h1, ⟨op', v', h2, h3⟩, h4⟩
    refine ⟨h1, ⟨op', v', h2, fun ok => ?_⟩, h4⟩
    unfold opV verV
    rw [if_neg ht, if_neg ht]
    exact h3 ok

set_option maxHeartbeats 4000000 in
theorem read_any (s : ByteArray) (w : World) (hE : Env w) (hs : s.size ≤ 20000) :
    Calls Tryz.prog 184 #[.string s] w fun e w' => ReadDone s.data.toList w e w' := by
  have HE : Hid (Env w) := hE
  have ho : Old (w.heap.size + 1) := ⟨Nat.lt_succ_of_lt hE.1.1, Nat.lt_succ_of_lt hE.2.1.1, Nat.lt_succ_of_lt hE.2.2.1.1, Nat.lt_succ_of_lt hE.2.2.2.1⟩
  have HOld : Hid (Old (w.heap.size + 1)) := ho
  have HL : Hid (s.data.toList.length = s.size) := size_list s
  clear hE ho
  go_enter Tryz.func184, Tryz.ntmps184
  go_wp2_with fail
  have kz : Keep w ((w.alloc (.cells #[.string ⟨#[]⟩, .int .i64 0, .int .i64 0, .int .i64 0, .string ⟨#[]⟩, .bool false] 23)).alloc (.cells #[.string ⟨#[]⟩, .int .i64 0, .int .i64 0, .int .i64 0, .string ⟨#[]⟩, .bool false] 23)) := (Keep.alloc _ _).alloc' _
  have r0 : Hid (AtomAt w.heap.size ⟨#[]⟩ 0 0 0 ⟨#[]⟩ false ((w.alloc (.cells #[.string ⟨#[]⟩, .int .i64 0, .int .i64 0, .int .i64 0, .string ⟨#[]⟩, .bool false] 23)).alloc (.cells #[.string ⟨#[]⟩, .int .i64 0, .int .i64 0, .int .i64 0, .string ⟨#[]⟩, .bool false] 23))) := two_first _ _ _
  have b0 : Hid (AtomAt (w.heap.size + 1) ⟨#[]⟩ 0 0 0 ⟨#[]⟩ false ((w.alloc (.cells #[.string ⟨#[]⟩, .int .i64 0, .int .i64 0, .int .i64 0, .string ⟨#[]⟩, .bool false] 23)).alloc (.cells #[.string ⟨#[]⟩, .int .i64 0, .int .i64 0, .int .i64 0, .string ⟨#[]⟩, .bool false] 23))) := two_second _ _ _
  generalize hW0 : ((w.alloc (.cells #[.string ⟨#[]⟩, .int .i64 0, .int .i64 0, .int .i64 0, .string ⟨#[]⟩, .bool false] 23)).alloc (.cells #[.string ⟨#[]⟩, .int .i64 0, .int .i64 0, .int .i64 0, .string ⟨#[]⟩, .bool false] 23)) = W0 at kz r0 b0 ⊢
  clear hW0
  have hbz : w.heap.size + 1 < W0.heap.size := b0.out.facts.2.2
  refine (part_any _ _ _ hs (by decide) (by decide) asc3.2.2).mono ?_
  rintro e w1 ⟨s1, fl, rfl, e1, e2, k1⟩
  go_wp2_with fail
  have hs1 : s1.size ≤ 20000 := by rw [← size_list, e1]; have := ahead_len s.data.toList [43, 45]; rw [HL.out] at this; exact Nat.le_trans this hs
  refine (part_any _ _ _ hs1 (by decide) (by decide) asc3.2.1).mono ?_
  rintro e w2 ⟨s2, sl, rfl, e3, e4, k2⟩
  go_wp2_with fail
  have hs2 : s2.size ≤ 20000 := by rw [← size_list, e3]; have := ahead_len s1.data.toList [58]; rw [size_list] at this; exact Nat.le_trans this hs1
  refine (part_any _ _ _ hs2 (by decide) (by decide) asc3.1).mono ?_
  rintro e w3 ⟨nm, ve, rfl, e5, e6, k3⟩
  have k03 : Keep W0 w3 := (k1.trans k2).trans k3
  have HR : Hid (AtomAt w.heap.size ⟨#[]⟩ 0 0 0 ⟨#[]⟩ false w3) := r0.out.below k03 (by omega)
  have HB : Hid (AtomAt (w.heap.size + 1) ⟨#[]⟩ 0 0 0 ⟨#[]⟩ false w3) := b0.out.below k03 hbz
  have K3 : Hid (Keep w w3) := kz.trans k03
  have hbz3 : w.heap.size + 1 < w3.heap.size := HB.out.facts.2.2
  have EN : Hid (nm.data.toList = nmL s.data.toList ∧ fl.data.toList = flL s.data.toList ∧ sl.data.toList = slL s.data.toList ∧ ve.data.toList = veL s.data.toList) := by
    refine ⟨?_, e2, ?_, ?_⟩
    · rw [e5, e3, e1]; rfl
    · rw [e4, e1]; rfl
    · rw [e6, e3, e1]; rfl
  have hsl : sl.size ≤ 20000 := by rw [← size_list, e4]; have := tail_len s1.data.toList [58]; rw [size_list] at this; exact Nat.le_trans this hs1
  have hve : ve.size ≤ 20000 := by rw [← size_list, e6]; have := tail_len s2.data.toList [61, 60, 62]; rw [size_list] at this; exact Nat.le_trans this hs2
  obtain ⟨hc3, hz3, _⟩ := HB.out.facts
  clear e1 e2 e3 e4 e5 e6 k1 k2 k3 k03 r0 b0 kz hs1 hs2 hbz
  go_wp2_with fail
  have B4 : Hid (AtomAt (w.heap.size + 1) nm 0 0 0 ⟨#[]⟩ false (w3.setCell ⟨w.heap.size + 1, 0, none⟩ (.string nm))) := heap_set HB.out 0 _
  have kb4 : Below (w.heap.size + 1) w3 (w3.setCell ⟨w.heap.size + 1, 0, none⟩ (.string nm)) := below_set _ _ _ _
  refine (readFlag_any _ _ _ _ _ _ _ _ _ B4.out).mono ?_
  rintro e w4 ⟨rfl, ⟨f4, on4, A4, ft, ff⟩, k4⟩
  have kk4 : Below (w.heap.size + 1) w3 w4 := kb4.trans k4
  have HA4 : Hid (AtomAt (w.heap.size + 1) nm 0 0 0 f4 on4 w4) := A4
  have HR4 : Hid (AtomAt w.heap.size ⟨#[]⟩ 0 0 0 ⟨#[]⟩ false w4) := HR.out.below kk4 (by omega)
  have HF4 : Hid (f4.data.toList = (flL s.data.toList).drop 1 ∧ on4 = onV (flL s.data.toList)) := by
    rw [← EN.out.2.1]
    by_cases e : fl.data.toList = []
    · obtain ⟨rfl, rfl⟩ := ft e
      rw [e]
      exact ⟨rfl, rfl⟩
    · exact ff e
  rw [EN.out.2.1]
  clear A4 ft ff k4 kb4 B4 hc3 hz3 HB HR
  cases hfo : flagOk (flL s.data.toList)
  · have HO : Hid (readOk s.data.toList = false) := by show _ = _; unfold readOk; rw [hfo]; rfl
    clear hfo
    obtain ⟨hcB, hzB, _⟩ := HA4.out.facts
    obtain ⟨hcR, hzR, _⟩ := HR4.out.facts
    have HW : Hid (AtomAt w.heap.size nm 0 0 0 f4 on4 ((((((w4.setCell ⟨w.heap.size, 0, none⟩ (.string nm)).setCell ⟨w.heap.size, 1, none⟩ (.int .i64 0)).setCell ⟨w.heap.size, 2, none⟩ (.int .i64 0)).setCell ⟨w.heap.size, 3, none⟩ (.int .i64 0)).setCell ⟨w.heap.size, 4, none⟩ (.string f4)).setCell ⟨w.heap.size, 5, none⟩ (.bool on4))) := heap_set (heap_set (heap_set (heap_set (heap_set (heap_set HR4.out 0 _) 1 _) 2 _) 3 _) 4 _) 5 _
    have KW : Hid (Keep w ((((((w4.setCell ⟨w.heap.size, 0, none⟩ (.string nm)).setCell ⟨w.heap.size, 1, none⟩ (.int .i64 0)).setCell ⟨w.heap.size, 2, none⟩ (.int .i64 0)).setCell ⟨w.heap.size, 3, none⟩ (.int .i64 0)).setCell ⟨w.heap.size, 4, none⟩ (.string f4)).setCell ⟨w.heap.size, 5, none⟩ (.bool on4))) := (((((Keep.set (p := ⟨w.heap.size, 0, none⟩) (Below.trans K3.out (kk4.mono (Nat.le_succ _))) (Nat.le_refl _) _).set (p := ⟨w.heap.size, 1, none⟩) (Nat.le_refl _) _).set (p := ⟨w.heap.size, 2, none⟩) (Nat.le_refl _) _).set (p := ⟨w.heap.size, 3, none⟩) (Nat.le_refl _) _).set (p := ⟨w.heap.size, 4, none⟩) (Nat.le_refl _) _).set (p := ⟨w.heap.size, 5, none⟩) (Nat.le_refl _) _
    go_wp2_with fail
    generalize ((((((w4.setCell ⟨w.heap.size, 0, none⟩ (.string nm)).setCell ⟨w.heap.size, 1, none⟩ (.int .i64 0)).setCell ⟨w.heap.size, 2, none⟩ (.int .i64 0)).setCell ⟨w.heap.size, 3, none⟩ (.int .i64 0)).setCell ⟨w.heap.size, 4, none⟩ (.string f4)).setCell ⟨w.heap.size, 5, none⟩ (.bool on4)) = W at HW KW ⊢
    obtain ⟨hcW, _, _⟩ := HW.out.facts
    exact bodyPost_ret (v := .tuple #[.agg #[.string nm, .int .i64 0, .int .i64 0, .int .i64 0, .string f4, .bool on4], .bool false]) (by simp [results, Tryz.results184, go_sem, hcW]) rfl ⟨nm, f4, 0, 0, 0, on4, by rw [HO.out], fun e => by (rw [HO.out] at e; cases e), KW.out⟩
  · have HFO : Hid (flagOk (flL s.data.toList) = true) := hfo
    clear hfo
    have hE4 : Hid (Env w4) := Env.below (HE.out.keep K3.out) kk4 HOld.out
    go_wp2_with fail
    refine (readSlot_any _ _ _ _ _ _ _ _ _ HA4.out hE4.out hsl).mono ?_
    rintro e w5 ⟨rfl, ⟨sl5, A5, st, sf⟩, k5⟩
    have kk5 : Below (w.heap.size + 1) w3 w5 := kk4.trans k5
    have HA5 : Hid (AtomAt (w.heap.size + 1) nm 0 0 sl5 f4 on4 w5) := A5
    have HR5 : Hid (AtomAt w.heap.size ⟨#[]⟩ 0 0 0 ⟨#[]⟩ false w5) := HR4.out.below k5 (by omega)
    have HS5 : Hid (slotOk (slL s.data.toList) = true → sl5 = slotV (slL s.data.toList)) := by
      rw [← EN.out.2.2.1]
      intro ok
      unfold slotV
      by_cases e : sl.data.toList = []
      · rw [if_pos e]; exact st e
      · rw [if_neg e]; exact sf e ok
    rw [EN.out.2.2.1]
    clear A5 st sf k5 HA4 HR4
    cases hso : slotOk (slL s.data.toList)
    · have HO : Hid (readOk s.data.toList = false) := by show _ = _; unfold readOk; rw [HFO.out, hso]; rfl
      clear hso
      obtain ⟨hcB, hzB, _⟩ := HA5.out.facts
      obtain ⟨hcR, hzR, _⟩ := HR5.out.facts
      have HW : Hid (AtomAt w.heap.size nm 0 0 sl5 f4 on4 ((((((w5.setCell ⟨w.heap.size, 0, none⟩ (.string nm)).setCell ⟨w.heap.size, 1, none⟩ (.int .i64 0)).setCell ⟨w.heap.size, 2, none⟩ (.int .i64 0)).setCell ⟨w.heap.size, 3, none⟩ (.int .i64 sl5)).setCell ⟨w.heap.size, 4, none⟩ (.string f4)).setCell ⟨w.heap.size, 5, none⟩ (.bool on4))) := heap_set (heap_set (heap_set (heap_set (heap_set (heap_set HR5.out 0 _) 1 _) 2 _) 3 _) 4 _) 5 _
      have KW : Hid (Keep w ((((((w5.setCell ⟨w.heap.size, 0, none⟩ (.string nm)).setCell ⟨w.heap.size, 1, none⟩ (.int .i64 0)).setCell ⟨w.heap.size, 2, none⟩ (.int .i64 0)).setCell ⟨w.heap.size, 3, none⟩ (.int .i64 sl5)).setCell ⟨w.heap.size, 4, none⟩ (.string f4)).setCell ⟨w.heap.size, 5, none⟩ (.bool on4))) := (((((Keep.set (p := ⟨w.heap.size, 0, none⟩) (Below.trans K3.out (kk5.mono (Nat.le_succ _))) (Nat.le_refl _) _).set (p := ⟨w.heap.size, 1, none⟩) (Nat.le_refl _) _).set (p := ⟨w.heap.size, 2, none⟩) (Nat.le_refl _) _).set (p := ⟨w.heap.size, 3, none⟩) (Nat.le_refl _) _).set (p := ⟨w.heap.size, 4, none⟩) (Nat.le_refl _) _).set (p := ⟨w.heap.size, 5, none⟩) (Nat.le_refl _) _
      go_wp2_with fail
      generalize ((((((w5.setCell ⟨w.heap.size, 0, none⟩ (.string nm)).setCell ⟨w.heap.size, 1, none⟩ (.int .i64 0)).setCell ⟨w.heap.size, 2, none⟩ (.int .i64 0)).setCell ⟨w.heap.size, 3, none⟩ (.int .i64 sl5)).setCell ⟨w.heap.size, 4, none⟩ (.string f4)).setCell ⟨w.heap.size, 5, none⟩ (.bool on4)) = W at HW KW ⊢
      obtain ⟨hcW, _, _⟩ := HW.out.facts
      exact bodyPost_ret (v := .tuple #[.agg #[.string nm, .int .i64 0, .int .i64 0, .int .i64 sl5, .string f4, .bool on4], .bool false]) (by simp [results, Tryz.results184, go_sem, hcW]) rfl ⟨nm, f4, 0, 0, sl5, on4, by rw [HO.out], fun e => by (rw [HO.out] at e; cases e), KW.out⟩
    · have HSO : Hid (slotOk (slL s.data.toList) = true) := hso
      clear hso
      have hE5 : Hid (Env w5) := Env.below (HE.out.keep K3.out) kk5 HOld.out
      go_wp2_with fail
      refine (readVersion_any _ _ _ _ _ _ _ HA5.out hE5.out hve HOld.out).mono ?_
      rintro e w6 ⟨rfl, ⟨op6, v6, A6, vt⟩, k6⟩
      have kk6 : Below (w.heap.size + 1) w3 w6 := kk5.trans k6
      have HA6 : Hid (AtomAt (w.heap.size + 1) nm op6 v6 sl5 f4 on4 w6) := A6
      have HR6 : Hid (AtomAt w.heap.size ⟨#[]⟩ 0 0 0 ⟨#[]⟩ false w6) := HR5.out.below k6 (by omega)
      have HV6 : Hid (verOk (veL s.data.toList) = true → op6 = opV (veL s.data.toList) ∧ v6 = verV (veL s.data.toList)) := by
        rw [← EN.out.2.2.2]; exact vt
      rw [EN.out.2.2.2]
      clear A6 vt k6 HA5 HR5
      have HO : Hid (readOk s.data.toList = verOk (veL s.data.toList)) := by show _ = _; unfold readOk; rw [HFO.out, HSO.out]; rfl
      obtain ⟨hcB, hzB, _⟩ := HA6.out.facts
      obtain ⟨hcR, hzR, _⟩ := HR6.out.facts
      have HW : Hid (AtomAt w.heap.size nm op6 v6 sl5 f4 on4 ((((((w6.setCell ⟨w.heap.size, 0, none⟩ (.string nm)).setCell ⟨w.heap.size, 1, none⟩ (.int .i64 op6)).setCell ⟨w.heap.size, 2, none⟩ (.int .i64 v6)).setCell ⟨w.heap.size, 3, none⟩ (.int .i64 sl5)).setCell ⟨w.heap.size, 4, none⟩ (.string f4)).setCell ⟨w.heap.size, 5, none⟩ (.bool on4))) := heap_set (heap_set (heap_set (heap_set (heap_set (heap_set HR6.out 0 _) 1 _) 2 _) 3 _) 4 _) 5 _
      have KW : Hid (Keep w ((((((w6.setCell ⟨w.heap.size, 0, none⟩ (.string nm)).setCell ⟨w.heap.size, 1, none⟩ (.int .i64 op6)).setCell ⟨w.heap.size, 2, none⟩ (.int .i64 v6)).setCell ⟨w.heap.size, 3, none⟩ (.int .i64 sl5)).setCell ⟨w.heap.size, 4, none⟩ (.string f4)).setCell ⟨w.heap.size, 5, none⟩ (.bool on4))) := (((((Keep.set (p := ⟨w.heap.size, 0, none⟩) (Below.trans K3.out (kk6.mono (Nat.le_succ _))) (Nat.le_refl _) _).set (p := ⟨w.heap.size, 1, none⟩) (Nat.le_refl _) _).set (p := ⟨w.heap.size, 2, none⟩) (Nat.le_refl _) _).set (p := ⟨w.heap.size, 3, none⟩) (Nat.le_refl _) _).set (p := ⟨w.heap.size, 4, none⟩) (Nat.le_refl _) _).set (p := ⟨w.heap.size, 5, none⟩) (Nat.le_refl _) _
      go_wp2_with fail
      generalize ((((((w6.setCell ⟨w.heap.size, 0, none⟩ (.string nm)).setCell ⟨w.heap.size, 1, none⟩ (.int .i64 op6)).setCell ⟨w.heap.size, 2, none⟩ (.int .i64 v6)).setCell ⟨w.heap.size, 3, none⟩ (.int .i64 sl5)).setCell ⟨w.heap.size, 4, none⟩ (.string f4)).setCell ⟨w.heap.size, 5, none⟩ (.bool on4)) = W at HW KW ⊢
      obtain ⟨hcW, _, _⟩ := HW.out.facts
      exact bodyPost_ret (v := .tuple #[.agg #[.string nm, .int .i64 op6, .int .i64 v6, .int .i64 sl5, .string f4, .bool on4], .bool (verOk (veL s.data.toList))]) (by simp [results, Tryz.results184, go_sem, hcW]) rfl ⟨nm, f4, op6, v6, sl5, on4, by rw [HO.out], fun e => by (rw [HO.out] at e; exact ⟨EN.out.1, (HV6.out e).1, (HV6.out e).2, HS5.out HSO.out, HF4.out.1, HF4.out.2⟩), KW.out⟩
end Go.Proofs.YtnagpmilagdjeaaGreatDoor
