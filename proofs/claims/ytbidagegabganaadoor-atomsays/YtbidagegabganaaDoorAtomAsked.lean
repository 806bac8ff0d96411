/- Two atoms are compared field by field; the closed fact asked holds wherever what the program lays is laid. -/
import Derived.Test.YtbidagegabganaaDoorAtomMath
import Derived.Laws.StructEq
namespace Go.Proofs.YtbidagegabganaaDoor
open Go.RowKit

def sameB (n : ByteArray) (op v sl : Int) (f : ByteArray) (on : Bool) (n' : ByteArray) (op' v' sl' : Int) (f' : ByteArray) (on' : Bool) : Bool :=
  (n.toList == n'.toList) && ((op == op') && ((v == v') && ((sl == sl') && ((f.toList == f'.toList) && (on == on')))))
theorem sameB_true {n : ByteArray} {op v sl : Int} {f : ByteArray} {on : Bool} {n' : ByteArray} {op' v' sl' : Int} {f' : ByteArray} {on' : Bool} :
    sameB n op v sl f on n' op' v' sl' f' on' = true ↔ n.data.toList = n'.data.toList ∧ op = op' ∧ v = v' ∧ sl = sl' ∧ f.data.toList = f'.data.toList ∧ on = on' := by
  unfold sameB
  rw [Lib.toList_data, Lib.toList_data, Lib.toList_data, Lib.toList_data]
  simp

set_option maxHeartbeats 1000000 in
theorem eqAtom (n : ByteArray) (op v sl : Int) (f : ByteArray) (on : Bool) (n' : ByteArray) (op' v' sl' : Int) (f' : ByteArray) (on' : Bool) (w : World) :
    (Op.equalIn 10000 23 (.agg #[.string n, .int .i64 op, .int .i64 v, .int .i64 sl, .string f, .bool on]) (.agg #[.string n', .int .i64 op', .int .i64 v', .int .i64 sl', .string f', .bool on'])).run Tryd.prog w = .ok (sameB n op v sl f on n' op' v' sl' f' on') w := by
  have u3 := Tryd.underlying3
  have a3 := Tryd.isAgg3
  have z3 := Tryd.sizeOf3
  have hS : Tryd.prog.underlying 23 = some (.struct (Tryd.prog.fieldsOf 23)) := by kernel_rfl
  have hp : Tryd.prog.stoodInHeld 23 = false := by kernel_rfl
  rw [show (10000 : Nat) = 9999 + 1 from rfl, run_equalIn_agg w 9999 23 _ _ hS hp]
  clear hS hp
  simp only [Program.fieldsOf, Tryd.underlying23]
  go_simp
  unfold sameB
  by_cases h1 : n.toList = n'.toList <;> by_cases h2 : op = op' <;> by_cases h3 : v = v' <;> by_cases h4 : sl = sl' <;> by_cases h5 : f.toList = f'.toList <;> by_cases h6 : on = on' <;> simp [h1, h2, h3, h4, h5, h6]

theorem itoa_one {k : Nat} (h : k < 10) : Lib.itoa (k : Int) = [UInt8.ofNat (48 + k)] := by rw [itoa_nat, Lib.decDigits_one h]
theorem asked_text : textOf [97, 49] 2 2 1 [120] true = [97, 49, 62, 61, 50, 58, 49, 43, 120] := by
  have e2 : Lib.itoa 2 = [50] := itoa_one (k := 2) (by decide)
  have e1 : Lib.itoa 1 = [49] := itoa_one (k := 1) (by decide)
  unfold textOf
  rw [e1, e2]
  rfl
theorem asked_chk : chk [97, 49] 2 2 1 [120] true = 0 := by decide

/-- What Parse answers of a text that is an atom's. -/
theorem parse_of_text (s : ByteArray) (w : World) (hE : Env w) {n : List UInt8} {op v sl : Int} {f : List UInt8} {on : Bool} (hc : chk n op v sl f on = 0) (hs : s.data.toList = textOf n op v sl f on) :
    Calls Tryd.prog 7 #[.string s] w fun e w' => e = .returned (.tuple #[.agg #[.string ⟨n.toArray⟩, .int .i64 op, .int .i64 v, .int .i64 sl, .string ⟨f.toArray⟩, .bool on], .int .i64 0]) ∧ Keep w w' := by
  refine (parse_any s w hE).mono ?_
  rintro e w' ⟨n', f', op', v', sl', on', rfl, h1, _, k⟩
  obtain ⟨p0, p1, p2, p3, p4, p5, p6⟩ := parse_text hc
  rw [← hs] at p0 p1 p2 p3 p4 p5 p6
  obtain ⟨q1, q2, q3, q4, q5, q6⟩ := h1 p0
  refine ⟨?_, k⟩
  have en : n' = ⟨n.toArray⟩ := by cases n'; simp at q1; rw [← p1, ← q1]
  have ef : f' = ⟨f.toArray⟩ := by cases f'; simp at q5; rw [← p5]; simp; rw [← q5]
  rw [p0, en, ef, q2, p2, q3, p3, q4, p4, q6, p6]

set_option maxHeartbeats 2000000 in
theorem asked_any (w : World) (hE : Env w) :
    Calls Tryd.prog 9 #[] w fun e w' => e = .returned (.bool true) ∧ Keep w w' := by
  have HE : Hid (Env w) := hE
  clear hE
  go_enter Tryd.func9, Tryd.ntmps9
  go_wp2_with fail
  have ka : Keep w (w.alloc (.cells #[.string ⟨#[97, 49]⟩, .int .i64 2, .int .i64 2, .int .i64 1, .string ⟨#[120]⟩, .bool true] 23)) := Keep.alloc _ _
  have a0 : Hid (AtomAt w.heap.size ⟨#[97, 49]⟩ 2 2 1 ⟨#[120]⟩ true (w.alloc (.cells #[.string ⟨#[97, 49]⟩, .int .i64 2, .int .i64 2, .int .i64 1, .string ⟨#[120]⟩, .bool true] 23))) := one_new _ _
  generalize w.alloc (.cells #[.string ⟨#[97, 49]⟩, .int .i64 2, .int .i64 2, .int .i64 1, .string ⟨#[120]⟩, .bool true] 23) = W0 at ka a0 ⊢
  have hb0 : w.heap.size < W0.heap.size := a0.out.facts.2.2
  refine (print_ok _ _ _ _ _ _ _ (HE.out.keep ka).1 asked_chk).mono ?_
  rintro e w1 ⟨rfl, k1⟩
  have hT : textOf (ByteArray.mk #[97, 49]).data.toList 2 2 1 (ByteArray.mk #[120]).data.toList true = [97, 49, 62, 61, 50, 58, 49, 43, 120] := asked_text
  rw [hT]
  have a1 : Hid (AtomAt w.heap.size ⟨#[97, 49]⟩ 2 2 1 ⟨#[120]⟩ true w1) := a0.out.below k1 hb0
  have K1 : Keep w w1 := ka.trans k1
  have hb1 : w.heap.size < w1.heap.size := a1.out.facts.2.2
  clear hT k1 a0 hb0
  go_wp2_with fail
  refine (parse_of_text _ _ (HE.out.keep K1) asked_chk asked_text.symm).mono ?_
  rintro e w2 ⟨rfl, k2⟩
  have a2 : Hid (AtomAt w.heap.size ⟨#[97, 49]⟩ 2 2 1 ⟨#[120]⟩ true w2) := a1.out.below k2 hb1
  have K2 : Keep w w2 := K1.trans k2
  have hb2 : w.heap.size < w2.heap.size := a2.out.facts.2.2
  obtain ⟨hc2, _, _⟩ := a2.out.facts
  have heq := fun wx => eqAtom ⟨#[97, 49]⟩ 2 2 1 ⟨#[120]⟩ true ⟨#[97, 49]⟩ 2 2 1 ⟨#[120]⟩ true wx
  have hsm : sameB ⟨#[97, 49]⟩ 2 2 1 ⟨#[120]⟩ true ⟨#[97, 49]⟩ 2 2 1 ⟨#[120]⟩ true = true := sameB_true.2 ⟨rfl, rfl, rfl, rfl, rfl, rfl⟩
  rw [hsm] at heq
  clear hsm k2 a1 hb1
  go_wp2_with fail
  have K3 : Keep w (w2.alloc (.cells #[.string ⟨#[97, 49]⟩, .int .i64 2, .int .i64 2, .int .i64 1, .string ⟨#[120]⟩, .bool true] 23)) := K2.alloc' _
  have a3 : Hid (AtomAt w.heap.size ⟨#[97, 49]⟩ 2 2 1 ⟨#[120]⟩ true (w2.alloc (.cells #[.string ⟨#[97, 49]⟩, .int .i64 2, .int .i64 2, .int .i64 1, .string ⟨#[120]⟩, .bool true] 23))) := a2.out.below (Keep.alloc _ _) hb2
  generalize w2.alloc (.cells #[.string ⟨#[97, 49]⟩, .int .i64 2, .int .i64 2, .int .i64 1, .string ⟨#[120]⟩, .bool true] 23) = W3 at K3 a3 ⊢
  have hb3 : w.heap.size < W3.heap.size := a3.out.facts.2.2
  clear hc2 heq
  refine (fits_any _ _ _ _ _ _ _ _ _).mono ?_
  rintro e w4 ⟨rfl, k4⟩
  rw [show fitB 2 2 1 3 1 = true from by decide]
  have a4 : Hid (AtomAt w.heap.size ⟨#[97, 49]⟩ 2 2 1 ⟨#[120]⟩ true w4) := a3.out.below k4 hb3
  have hb4 : w.heap.size < w4.heap.size := a4.out.facts.2.2
  have K4 : Keep w w4 := K3.trans k4
  obtain ⟨hc4, _, _⟩ := a4.out.facts
  go_wp2_with fail
  refine (fits_any _ _ _ _ _ _ _ _ _).mono ?_
  rintro e w5 ⟨rfl, k5⟩
  rw [show fitB 2 2 1 1 1 = false from by decide]
  have a5 : Hid (AtomAt w.heap.size ⟨#[97, 49]⟩ 2 2 1 ⟨#[120]⟩ true w5) := a4.out.below k5 hb4
  have hb5 : w.heap.size < w5.heap.size := a5.out.facts.2.2
  have K5 : Keep w w5 := K4.trans k5
  clear hc4
  obtain ⟨hc5, _, _⟩ := a5.out.facts
  go_wp2_with fail
  refine (fits_any _ _ _ _ _ _ _ _ _).mono ?_
  rintro e w6 ⟨rfl, k6⟩
  rw [show fitB 2 2 1 2 2 = false from by decide]
  have K6 : Keep w w6 := K5.trans k6
  go_wp2_with fail
  go_ret
  exact ⟨rfl, K6⟩
end Go.Proofs.YtbidagegabganaaDoor
