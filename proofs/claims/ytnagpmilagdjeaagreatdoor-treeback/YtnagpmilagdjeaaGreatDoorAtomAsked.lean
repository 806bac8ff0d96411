/- Two atoms are compared field by field; the closed fact asked holds wherever what the program lays is laid. -/
import Derived.Test.YtnagpmilagdjeaaGreatDoorAtomMath
import Derived.Laws.StructEq
namespace Go.Proofs.YtnagpmilagdjeaaGreatDoor
open Go.RowKit

def sameB (n : ByteArray) (op v sl : Int) (f : ByteArray) (on : Bool) (n' : ByteArray) (op' v' sl' : Int) (f' : ByteArray) (on' : Bool) : Bool :=
  (n.toList == n'.toList) && ((op == op') && ((v == v') && ((sl == sl') && ((f.toList == f'.toList) && (on == on')))))
theorem sameB_true {n : ByteArray} {op v sl : Int} {f : ByteArray} {on : Bool} {n' : ByteArray} {op' v' sl' : Int} {f' : ByteArray} {on' : Bool} :
    sameB n op v sl f on n' op' v' sl' f' on' = true ↔ n.data.toList = n'.data.toList ∧ op = op' ∧ v = v' ∧ sl = sl' ∧ f.data.toList = f'.data.toList ∧ on = on' := by
  unfold sameB
  rw [Lib.toList_data, Lib.toList_data, Lib.toList_data, Lib.toList_data]
  simp

set_option maxHeartbeats 1000000 in
theorem eqAtom (n : ByteArray) (op v sl : Int) (f : ByteArray) (on : Bool) (n' : ByteArray) (op' v' sl' : Int) (f' : ByteArray) (on' : Bool) (w : World) :
    (Op.equalIn 10000 23 (.agg #[.string n, .int .i64 op, .int .i64 v, .int .i64 sl, .string f, .bool on]) (.agg #[.string n', .int .i64 op', .int .i64 v', .int .i64 sl', .string f', .bool on'])).run Tryz.prog w = .ok (sameB n op v sl f on n' op' v' sl' f' on') w := by
  have u3 := Tryz.underlying3
  have a3 := Tryz.isAgg3
  have z3 := Tryz.sizeOf3
  have hS : Tryz.prog.underlying 23 = some (.struct (Tryz.prog.fieldsOf 23)) := by kernel_rfl
  have hp : Tryz.prog.stoodInHeld 23 = false := by kernel_rfl
  rw [show (10000 : Nat) = 9999 + 1 from rfl, run_equalIn_agg w 9999 23 _ _ hS hp]
  clear hS hp
  simp only [Program.fieldsOf, Tryz.underlying23]
  go_simp
  unfold sameB
  by_cases h1 : n.toList = n'.toList <;> by_cases h2 : op = op' <;> by_cases h3 : v = v' <;> by_cases h4 : sl = sl' <;> by_cases h5 : f.toList = f'.toList <;> by_cases h6 : on = on' <;> simp [h1, h2, h3, h4, h5, h6]

theorem itoa_one {k : Nat} (h : k < 10) : Lib.itoa (k : Int) = [UInt8.ofNat (48 + k)] := by rw [itoa_nat, Lib.decDigits_one h]
theorem asked_text : textOf [97, 49] 2 2 1 [120] true = [97, 49, 62, 61, 50, 58, 49, 43, 120] := by
  have e2 : Lib.itoa 2 = [50] := itoa_one (k := 2) (by decide)
  have e1 : Lib.itoa 1 = [49] := itoa_one (k := 1) (by decide)
  unfold textOf
  rw [e1, e2]
  rfl
theorem asked_chk : chk [97, 49] 2 2 1 [120] true = 0 := by decide

/-- What Parse answers of a text that is an atom's. -/
theorem parse_of_text (s : ByteArray) (w : World) (hE : Env w) {n : List UInt8} {op v sl : Int} {f : List UInt8} {on : Bool} (hc : chk n op v sl f on = 0) (hs : s.data.toList = textOf n op v sl f on) :
    Calls Tryz.prog 149 #[.string s] w fun e w' => e = .returned (.tuple #[.agg #[.string ⟨n.toArray⟩, .int .i64 op, .int .i64 v, .int .i64 sl, .string ⟨f.toArray⟩, .bool on], .int .i64 0]) ∧ Keep w w' := by
  refine (parse_any s w hE).mono ?_
  rintro e w' ⟨n', f', op', v', sl', on', rfl, h1, _, k⟩
  obtain ⟨p0, p1, p2, p3, p4, p5, p6⟩ := parse_text hc
  rw [← hs] at p0 p1 p2 p3 p4 p5 p6
  obtain ⟨q1, q2, q3, q4, q5, q6⟩ := h1 p0
  refine ⟨?_, k⟩
  have en : n' = ⟨n.toArray⟩ := by cases n'; simp at q1; rw [← p1, ← q1]
  have ef : f' = ⟨f.toArray⟩ := by cases f'; simp at q5; rw [← p5]; simp; rw [← q5]
  rw [p0, en, ef, q2, p2, q3, p3, q4, p4, q6, p6]

end Go.Proofs.YtnagpmilagdjeaaGreatDoor
