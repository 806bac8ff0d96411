/- A map of two texts by bool that a call makes: what the inserts leave and the look-up answers. -/
import Derived.Test.YtkckkjpkidcbnaaGreatDoorRefCheck
import Derived.MapKept
namespace Go.Proofs.YtkckkjpkidcbnaaGreatDoor
open Go.RowKit

theorem map_set (W : World) (o o' : Obj) : ({ (W.alloc o) with heap := (W.alloc o).heap.setIfInBounds W.heap.size o' } : World) = W.alloc o' := by
  show ({ W with heap := (W.heap.push o).setIfInBounds W.heap.size o' } : World) = { W with heap := W.heap.push o' }
  congr 1
  apply Array.ext_getElem?
  intro i
  rw [Array.getElem?_setIfInBounds, Array.getElem?_push, Array.getElem?_push]
  by_cases h : W.heap.size = i
  · subst h; simp
  · rw [if_neg h, if_neg (Ne.symm h), if_neg (Ne.symm h)]
/-- The two entries. -/
def ent (k : Bool) (x : ByteArray) (c : Nat) : MapEntry := { key := .bool k, val := .string x, born := c }
theorem chkKey (k : Bool) (e : Bool) (W : World) : (Instr.checkKey e 10000 4 (.bool k)).run Tryz.prog W = .ok () W :=
  MapKept.run_checkKey (k := .bool k) Tryz.underlying4 (by simp [MapKept.IsKey]) e 9999
theorem ins_one (W : World) (x : ByteArray) : (Instr.mapUpdate 172 (.map (some W.heap.size)) (.bool true) (.string x)).run Tryz.prog (W.alloc (.map #[] 0)) = .ok () (W.alloc (.map #[ent true x 0] 1)) := by
  have hb : (W.alloc (.map #[] 0)).heap[W.heap.size]? = some (.map #[] 0) := (MapKept.heap_alloc W _).1
  have hf : Instr.findNow .bool (.bool true) ([] : List MapEntry) 0 = some none := rfl
  simp [Instr.mapUpdate, run_underlying Tryz.underlying172, MapKept.run_getObj_map hb, chkKey, MapKept.run_findKey Tryz.underlying4 hf, MapKept.run_setObj_map _ hb, Result.andThen, ent]
  exact map_set W _ _
theorem ins_two (W : World) (x y : ByteArray) : (Instr.mapUpdate 172 (.map (some W.heap.size)) (.bool false) (.string y)).run Tryz.prog (W.alloc (.map #[ent true x 0] 1)) = .ok () (W.alloc (.map #[ent true x 0, ent false y 1] 2)) := by
  have hb : (W.alloc (.map #[ent true x 0] 1)).heap[W.heap.size]? = some (.map #[ent true x 0] 1) := (MapKept.heap_alloc W _).1
  have hf : Instr.findNow .bool (.bool false) ([ent true x 0] : List MapEntry) 0 = some none := rfl
  simp [Instr.mapUpdate, run_underlying Tryz.underlying172, MapKept.run_getObj_map hb, chkKey, MapKept.run_findKey Tryz.underlying4 hf, MapKept.run_setObj_map _ hb, Result.andThen]
  exact map_set W _ _
theorem look_two (W : World) (x y : ByteArray) (k : Bool) : (Instr.lookup 172 (.map (some W.heap.size)) (.bool k) false).run Tryz.prog (W.alloc (.map #[ent true x 0, ent false y 1] 2)) = .ok (.string (if k then x else y)) (W.alloc (.map #[ent true x 0, ent false y 1] 2)) := by
  have hb : (W.alloc (.map #[ent true x 0, ent false y 1] 2)).heap[W.heap.size]? = some (.map #[ent true x 0, ent false y 1] 2) := (MapKept.heap_alloc W _).1
  cases k
  · have hf : Instr.findNow .bool (.bool false) ([ent true x 0, ent false y 1] : List MapEntry) 0 = some (some (1, .string y)) := rfl
    simp [Instr.lookup, run_underlying Tryz.underlying172, MapKept.run_getObj_map hb, chkKey, MapKept.run_findKey Tryz.underlying4 hf, Result.andThen]
  · have hf : Instr.findNow .bool (.bool true) ([ent true x 0, ent false y 1] : List MapEntry) 0 = some (some (0, .string x)) := rfl
    simp [Instr.lookup, run_underlying Tryz.underlying172, MapKept.run_getObj_map hb, chkKey, MapKept.run_findKey Tryz.underlying4 hf, Result.andThen]
end Go.Proofs.YtkckkjpkidcbnaaGreatDoor
/- The reference's AtomText answers the text that the plain function textOf says, of every atom that may be. -/
namespace Go.Proofs.YtkckkjpkidcbnaaGreatDoor
open Go.RowKit

theorem itoa_two (i : Nat) (h : i < 100) (w : World) :
    Calls Tryz.prog 90 #[.int .i64 ↑i] w fun e w' => ∃ d : ByteArray, e = .returned (.string d) ∧ Hid (d.data.toList = Lib.decDigits i) ∧ d.size ≤ 2 ∧ w' = w := by
  refine (Tryz.strconv_Itoa_small i h w).mono ?_
  rintro e w' ⟨rfl, rfl⟩
  exact ⟨_, rfl, rfl, by rw [mk_size]; exact decDigits_le h, rfl⟩

set_option maxHeartbeats 4000000 in
set_option maxRecDepth 100000 in
theorem refText_000 (n f : ByteArray) (v sl : Nat) (on : Bool) (w : World) (hn : n.size ≤ 8) (hsl : ((sl : Int) != 0) = false) (hfe : f.toList.isEmpty = true) :
    Calls Tryz.prog 70 #[.agg #[.string n, .int .i64 0, .int .i64 ↑v, .int .i64 ↑sl, .string f, .bool on]] w fun e w' => (∃ t : ByteArray, e = .returned (.string t) ∧ t.data.toList = n.data.toList) ∧ Keep w w' := by
  have a0 : Hid (AtomAt w.heap.size n 0 ↑v ↑sl f on ((w.alloc (.cells #[.string n, .int .i64 0, .int .i64 ↑v, .int .i64 ↑sl, .string f, .bool on] 23)).alloc (.cells #[.string ⟨#[]⟩, .string ⟨#[61]⟩, .string ⟨#[62, 61]⟩, .string ⟨#[60]⟩] 9)).drew) := two_first w _ _
  have k0 : Keep w ((w.alloc (.cells #[.string n, .int .i64 0, .int .i64 ↑v, .int .i64 ↑sl, .string f, .bool on] 23)).alloc (.cells #[.string ⟨#[]⟩, .string ⟨#[61]⟩, .string ⟨#[62, 61]⟩, .string ⟨#[60]⟩] 9)).drew := ((Keep.alloc _ _).alloc' _).drew
  go_enter Tryz.func70, Tryz.ntmps70
  go_wp2_with fail
  go_region
  generalize ((w.alloc (.cells #[.string n, .int .i64 0, .int .i64 ↑v, .int .i64 ↑sl, .string f, .bool on] 23)).alloc (.cells #[.string ⟨#[]⟩, .string ⟨#[61]⟩, .string ⟨#[62, 61]⟩, .string ⟨#[60]⟩] 9)).drew = W at a0 k0 ⊢
  obtain ⟨hc, _, _⟩ := a0.out.facts
  go_wp2_with fail
  go_ret
  exact ⟨⟨_, rfl, by simp⟩, k0⟩

set_option maxHeartbeats 4000000 in
set_option maxRecDepth 100000 in
theorem refText_001 (n f : ByteArray) (v sl : Nat) (on : Bool) (w : World) (hn : n.size ≤ 8) (hsl : ((sl : Int) != 0) = false) (hf : f.size ≤ 8) (hfe : f.toList.isEmpty = false) (mk : UInt8) (HMK : Hid (mk = if on then 43 else 45)) :
    Calls Tryz.prog 70 #[.agg #[.string n, .int .i64 0, .int .i64 ↑v, .int .i64 ↑sl, .string f, .bool on]] w fun e w' => (∃ t : ByteArray, e = .returned (.string t) ∧ t.data.toList = (n.data.toList ++ [mk] ++ f.data.toList)) ∧ Keep w w' := by
  have a0 : Hid (AtomAt w.heap.size n 0 ↑v ↑sl f on ((w.alloc (.cells #[.string n, .int .i64 0, .int .i64 ↑v, .int .i64 ↑sl, .string f, .bool on] 23)).alloc (.cells #[.string ⟨#[]⟩, .string ⟨#[61]⟩, .string ⟨#[62, 61]⟩, .string ⟨#[60]⟩] 9)).drew) := two_first w _ _
  have k0 : Keep w ((w.alloc (.cells #[.string n, .int .i64 0, .int .i64 ↑v, .int .i64 ↑sl, .string f, .bool on] 23)).alloc (.cells #[.string ⟨#[]⟩, .string ⟨#[61]⟩, .string ⟨#[62, 61]⟩, .string ⟨#[60]⟩] 9)).drew := ((Keep.alloc _ _).alloc' _).drew
  go_enter Tryz.func70, Tryz.ntmps70
  go_wp2_with fail
  go_region
  generalize ((w.alloc (.cells #[.string n, .int .i64 0, .int .i64 ↑v, .int .i64 ↑sl, .string f, .bool on] 23)).alloc (.cells #[.string ⟨#[]⟩, .string ⟨#[61]⟩, .string ⟨#[62, 61]⟩, .string ⟨#[60]⟩] 9)).drew = W at a0 k0 ⊢
  obtain ⟨hc, _, _⟩ := a0.out.facts
  have hmm := @run_makeMap Tryz.prog
  have hi1 := ins_one W ⟨#[43]⟩
  have hi2 := ins_two W ⟨#[43]⟩ ⟨#[45]⟩
  have hlk := look_two W ⟨#[43]⟩ ⟨#[45]⟩ on
  obtain ⟨m, hm, hm1⟩ : ∃ m : ByteArray, Hid ((if on then ⟨#[43]⟩ else ⟨#[45]⟩ : ByteArray) = m) ∧ m.size = 1 := ⟨_, rfl, by cases on <;> rfl⟩
  rw [hm.out] at hlk
  have hm2 : m.size ≤ 1 := by omega
  clear hm1
  have hb : w.heap.size < W.heap.size := a0.out.facts.2.2
  go_wp2_with fail
  go_ret
  have HM : Hid (m.data.toList = [mk]) := by show _ = _; rw [← hm.out, HMK.out]; cases on <;> rfl
  exact ⟨⟨_, rfl, by simp [HM.out]⟩, k0.alloc' _⟩

set_option maxHeartbeats 4000000 in
set_option maxRecDepth 100000 in
theorem refText_010 (n f : ByteArray) (v sl : Nat) (on : Bool) (w : World) (hn : n.size ≤ 8) (hsl : ((sl : Int) != 0) = true) (hsl2 : sl < 100) (hfe : f.toList.isEmpty = true) :
    Calls Tryz.prog 70 #[.agg #[.string n, .int .i64 0, .int .i64 ↑v, .int .i64 ↑sl, .string f, .bool on]] w fun e w' => (∃ t : ByteArray, e = .returned (.string t) ∧ t.data.toList = (n.data.toList ++ [58] ++ Lib.decDigits sl)) ∧ Keep w w' := by
  have a0 : Hid (AtomAt w.heap.size n 0 ↑v ↑sl f on ((w.alloc (.cells #[.string n, .int .i64 0, .int .i64 ↑v, .int .i64 ↑sl, .string f, .bool on] 23)).alloc (.cells #[.string ⟨#[]⟩, .string ⟨#[61]⟩, .string ⟨#[62, 61]⟩, .string ⟨#[60]⟩] 9)).drew) := two_first w _ _
  have k0 : Keep w ((w.alloc (.cells #[.string n, .int .i64 0, .int .i64 ↑v, .int .i64 ↑sl, .string f, .bool on] 23)).alloc (.cells #[.string ⟨#[]⟩, .string ⟨#[61]⟩, .string ⟨#[62, 61]⟩, .string ⟨#[60]⟩] 9)).drew := ((Keep.alloc _ _).alloc' _).drew
  go_enter Tryz.func70, Tryz.ntmps70
  go_wp2_with fail
  go_region
  generalize ((w.alloc (.cells #[.string n, .int .i64 0, .int .i64 ↑v, .int .i64 ↑sl, .string f, .bool on] 23)).alloc (.cells #[.string ⟨#[]⟩, .string ⟨#[61]⟩, .string ⟨#[62, 61]⟩, .string ⟨#[60]⟩] 9)).drew = W at a0 k0 ⊢
  obtain ⟨hc, _, _⟩ := a0.out.facts
  go_wp2_with fail
  refine (itoa_two sl hsl2 _).mono ?_
  rintro e w' ⟨ds, rfl, HS, hds, hw⟩
  rw [hw]
  clear hw
  go_wp2_with fail
  go_ret
  exact ⟨⟨_, rfl, by simp [HS.out]⟩, k0⟩

set_option maxHeartbeats 4000000 in
set_option maxRecDepth 100000 in
theorem refText_011 (n f : ByteArray) (v sl : Nat) (on : Bool) (w : World) (hn : n.size ≤ 8) (hsl : ((sl : Int) != 0) = true) (hsl2 : sl < 100) (hf : f.size ≤ 8) (hfe : f.toList.isEmpty = false) (mk : UInt8) (HMK : Hid (mk = if on then 43 else 45)) :
    Calls Tryz.prog 70 #[.agg #[.string n, .int .i64 0, .int .i64 ↑v, .int .i64 ↑sl, .string f, .bool on]] w fun e w' => (∃ t : ByteArray, e = .returned (.string t) ∧ t.data.toList = ((n.data.toList ++ [58] ++ Lib.decDigits sl) ++ [mk] ++ f.data.toList)) ∧ Keep w w' := by
  have a0 : Hid (AtomAt w.heap.size n 0 ↑v ↑sl f on ((w.alloc (.cells #[.string n, .int .i64 0, .int .i64 ↑v, .int .i64 ↑sl, .string f, .bool on] 23)).alloc (.cells #[.string ⟨#[]⟩, .string ⟨#[61]⟩, .string ⟨#[62, 61]⟩, .string ⟨#[60]⟩] 9)).drew) := two_first w _ _
  have k0 : Keep w ((w.alloc (.cells #[.string n, .int .i64 0, .int .i64 ↑v, .int .i64 ↑sl, .string f, .bool on] 23)).alloc (.cells #[.string ⟨#[]⟩, .string ⟨#[61]⟩, .string ⟨#[62, 61]⟩, .string ⟨#[60]⟩] 9)).drew := ((Keep.alloc _ _).alloc' _).drew
  go_enter Tryz.func70, Tryz.ntmps70
  go_wp2_with fail
  go_region
  generalize ((w.alloc (.cells #[.string n, .int .i64 0, .int .i64 ↑v, .int .i64 ↑sl, .string f, .bool on] 23)).alloc (.cells #[.string ⟨#[]⟩, .string ⟨#[61]⟩, .string ⟨#[62, 61]⟩, .string ⟨#[60]⟩] 9)).drew = W at a0 k0 ⊢
  obtain ⟨hc, _, _⟩ := a0.out.facts
  go_wp2_with fail
  refine (itoa_two sl hsl2 _).mono ?_
  rintro e w' ⟨ds, rfl, HS, hds, hw⟩
  rw [hw]
  clear hw
  have hmm := @run_makeMap Tryz.prog
  have hi1 := ins_one W ⟨#[43]⟩
  have hi2 := ins_two W ⟨#[43]⟩ ⟨#[45]⟩
  have hlk := look_two W ⟨#[43]⟩ ⟨#[45]⟩ on
  obtain ⟨m, hm, hm1⟩ : ∃ m : ByteArray, Hid ((if on then ⟨#[43]⟩ else ⟨#[45]⟩ : ByteArray) = m) ∧ m.size = 1 := ⟨_, rfl, by cases on <;> rfl⟩
  rw [hm.out] at hlk
  have hm2 : m.size ≤ 1 := by omega
  clear hm1
  have hb : w.heap.size < W.heap.size := a0.out.facts.2.2
  go_wp2_with fail
  go_ret
  have HM : Hid (m.data.toList = [mk]) := by show _ = _; rw [← hm.out, HMK.out]; cases on <;> rfl
  exact ⟨⟨_, rfl, by simp [HS.out, HM.out]⟩, k0.alloc' _⟩

set_option maxHeartbeats 4000000 in
set_option maxRecDepth 100000 in
theorem refText_100 (n f : ByteArray) (v sl : Nat) (on : Bool) (w : World) (hn : n.size ≤ 8) (hv : v < 100) (hsl : ((sl : Int) != 0) = false) (hfe : f.toList.isEmpty = true) :
    Calls Tryz.prog 70 #[.agg #[.string n, .int .i64 1, .int .i64 ↑v, .int .i64 ↑sl, .string f, .bool on]] w fun e w' => (∃ t : ByteArray, e = .returned (.string t) ∧ t.data.toList = (n.data.toList ++ signL 1 ++ Lib.decDigits v)) ∧ Keep w w' := by
  have a0 : Hid (AtomAt w.heap.size n 1 ↑v ↑sl f on ((w.alloc (.cells #[.string n, .int .i64 1, .int .i64 ↑v, .int .i64 ↑sl, .string f, .bool on] 23)).alloc (.cells #[.string ⟨#[]⟩, .string ⟨#[61]⟩, .string ⟨#[62, 61]⟩, .string ⟨#[60]⟩] 9)).drew) := two_first w _ _
  have k0 : Keep w ((w.alloc (.cells #[.string n, .int .i64 1, .int .i64 ↑v, .int .i64 ↑sl, .string f, .bool on] 23)).alloc (.cells #[.string ⟨#[]⟩, .string ⟨#[61]⟩, .string ⟨#[62, 61]⟩, .string ⟨#[60]⟩] 9)).drew := ((Keep.alloc _ _).alloc' _).drew
  go_enter Tryz.func70, Tryz.ntmps70
  go_wp2_with fail
  go_region
  generalize ((w.alloc (.cells #[.string n, .int .i64 1, .int .i64 ↑v, .int .i64 ↑sl, .string f, .bool on] 23)).alloc (.cells #[.string ⟨#[]⟩, .string ⟨#[61]⟩, .string ⟨#[62, 61]⟩, .string ⟨#[60]⟩] 9)).drew = W at a0 k0 ⊢
  obtain ⟨hc, _, _⟩ := a0.out.facts
  go_wp2_with fail
  refine (itoa_two v hv _).mono ?_
  rintro e w' ⟨dv, rfl, HV, hdv, hw⟩
  rw [hw]
  clear hw
  go_wp2_with fail
  go_ret
  exact ⟨⟨_, rfl, by simp [HV.out, signL]⟩, k0⟩

set_option maxHeartbeats 4000000 in
set_option maxRecDepth 100000 in
theorem refText_101 (n f : ByteArray) (v sl : Nat) (on : Bool) (w : World) (hn : n.size ≤ 8) (hv : v < 100) (hsl : ((sl : Int) != 0) = false) (hf : f.size ≤ 8) (hfe : f.toList.isEmpty = false) (mk : UInt8) (HMK : Hid (mk = if on then 43 else 45)) :
    Calls Tryz.prog 70 #[.agg #[.string n, .int .i64 1, .int .i64 ↑v, .int .i64 ↑sl, .string f, .bool on]] w fun e w' => (∃ t : ByteArray, e = .returned (.string t) ∧ t.data.toList = ((n.data.toList ++ signL 1 ++ Lib.decDigits v) ++ [mk] ++ f.data.toList)) ∧ Keep w w' := by
  have a0 : Hid (AtomAt w.heap.size n 1 ↑v ↑sl f on ((w.alloc (.cells #[.string n, .int .i64 1, .int .i64 ↑v, .int .i64 ↑sl, .string f, .bool on] 23)).alloc (.cells #[.string ⟨#[]⟩, .string ⟨#[61]⟩, .string ⟨#[62, 61]⟩, .string ⟨#[60]⟩] 9)).drew) := two_first w _ _
  have k0 : Keep w ((w.alloc (.cells #[.string n, .int .i64 1, .int .i64 ↑v, .int .i64 ↑sl, .string f, .bool on] 23)).alloc (.cells #[.string ⟨#[]⟩, .string ⟨#[61]⟩, .string ⟨#[62, 61]⟩, .string ⟨#[60]⟩] 9)).drew := ((Keep.alloc _ _).alloc' _).drew
  go_enter Tryz.func70, Tryz.ntmps70
  go_wp2_with fail
  go_region
  generalize ((w.alloc (.cells #[.string n, .int .i64 1, .int .i64 ↑v, .int .i64 ↑sl, .string f, .bool on] 23)).alloc (.cells #[.string ⟨#[]⟩, .string ⟨#[61]⟩, .string ⟨#[62, 61]⟩, .string ⟨#[60]⟩] 9)).drew = W at a0 k0 ⊢
  obtain ⟨hc, _, _⟩ := a0.out.facts
  go_wp2_with fail
  refine (itoa_two v hv _).mono ?_
  rintro e w' ⟨dv, rfl, HV, hdv, hw⟩
  rw [hw]
  clear hw
  have hmm := @run_makeMap Tryz.prog
  have hi1 := ins_one W ⟨#[43]⟩
  have hi2 := ins_two W ⟨#[43]⟩ ⟨#[45]⟩
  have hlk := look_two W ⟨#[43]⟩ ⟨#[45]⟩ on
  obtain ⟨m, hm, hm1⟩ : ∃ m : ByteArray, Hid ((if on then ⟨#[43]⟩ else ⟨#[45]⟩ : ByteArray) = m) ∧ m.size = 1 := ⟨_, rfl, by cases on <;> rfl⟩
  rw [hm.out] at hlk
  have hm2 : m.size ≤ 1 := by omega
  clear hm1
  have hb : w.heap.size < W.heap.size := a0.out.facts.2.2
  go_wp2_with fail
  go_ret
  have HM : Hid (m.data.toList = [mk]) := by show _ = _; rw [← hm.out, HMK.out]; cases on <;> rfl
  exact ⟨⟨_, rfl, by simp [HV.out, signL, HM.out]⟩, k0.alloc' _⟩

set_option maxHeartbeats 4000000 in
set_option maxRecDepth 100000 in
theorem refText_110 (n f : ByteArray) (v sl : Nat) (on : Bool) (w : World) (hn : n.size ≤ 8) (hv : v < 100) (hsl : ((sl : Int) != 0) = true) (hsl2 : sl < 100) (hfe : f.toList.isEmpty = true) :
    Calls Tryz.prog 70 #[.agg #[.string n, .int .i64 1, .int .i64 ↑v, .int .i64 ↑sl, .string f, .bool on]] w fun e w' => (∃ t : ByteArray, e = .returned (.string t) ∧ t.data.toList = ((n.data.toList ++ signL 1 ++ Lib.decDigits v) ++ [58] ++ Lib.decDigits sl)) ∧ Keep w w' := by
  have a0 : Hid (AtomAt w.heap.size n 1 ↑v ↑sl f on ((w.alloc (.cells #[.string n, .int .i64 1, .int .i64 ↑v, .int .i64 ↑sl, .string f, .bool on] 23)).alloc (.cells #[.string ⟨#[]⟩, .string ⟨#[61]⟩, .string ⟨#[62, 61]⟩, .string ⟨#[60]⟩] 9)).drew) := two_first w _ _
  have k0 : Keep w ((w.alloc (.cells #[.string n, .int .i64 1, .int .i64 ↑v, .int .i64 ↑sl, .string f, .bool on] 23)).alloc (.cells #[.string ⟨#[]⟩, .string ⟨#[61]⟩, .string ⟨#[62, 61]⟩, .string ⟨#[60]⟩] 9)).drew := ((Keep.alloc _ _).alloc' _).drew
  go_enter Tryz.func70, Tryz.ntmps70
  go_wp2_with fail
  go_region
  generalize ((w.alloc (.cells #[.string n, .int .i64 1, .int .i64 ↑v, .int .i64 ↑sl, .string f, .bool on] 23)).alloc (.cells #[.string ⟨#[]⟩, .string ⟨#[61]⟩, .string ⟨#[62, 61]⟩, .string ⟨#[60]⟩] 9)).drew = W at a0 k0 ⊢
  obtain ⟨hc, _, _⟩ := a0.out.facts
  go_wp2_with fail
  refine (itoa_two v hv _).mono ?_
  rintro e w' ⟨dv, rfl, HV, hdv, hw⟩
  rw [hw]
  clear hw
  go_wp2_with fail
  refine (itoa_two sl hsl2 _).mono ?_
  rintro e w' ⟨ds, rfl, HS, hds, hw⟩
  rw [hw]
  clear hw
  go_wp2_with fail
  go_ret
  exact ⟨⟨_, rfl, by simp [HV.out, signL, HS.out]⟩, k0⟩

set_option maxHeartbeats 4000000 in
set_option maxRecDepth 100000 in
theorem refText_111 (n f : ByteArray) (v sl : Nat) (on : Bool) (w : World) (hn : n.size ≤ 8) (hv : v < 100) (hsl : ((sl : Int) != 0) = true) (hsl2 : sl < 100) (hf : f.size ≤ 8) (hfe : f.toList.isEmpty = false) (mk : UInt8) (HMK : Hid (mk = if on then 43 else 45)) :
    Calls Tryz.prog 70 #[.agg #[.string n, .int .i64 1, .int .i64 ↑v, .int .i64 ↑sl, .string f, .bool on]] w fun e w' => (∃ t : ByteArray, e = .returned (.string t) ∧ t.data.toList = (((n.data.toList ++ signL 1 ++ Lib.decDigits v) ++ [58] ++ Lib.decDigits sl) ++ [mk] ++ f.data.toList)) ∧ Keep w w' := by
  have a0 : Hid (AtomAt w.heap.size n 1 ↑v ↑sl f on ((w.alloc (.cells #[.string n, .int .i64 1, .int .i64 ↑v, .int .i64 ↑sl, .string f, .bool on] 23)).alloc (.cells #[.string ⟨#[]⟩, .string ⟨#[61]⟩, .string ⟨#[62, 61]⟩, .string ⟨#[60]⟩] 9)).drew) := two_first w _ _
  have k0 : Keep w ((w.alloc (.cells #[.string n, .int .i64 1, .int .i64 ↑v, .int .i64 ↑sl, .string f, .bool on] 23)).alloc (.cells #[.string ⟨#[]⟩, .string ⟨#[61]⟩, .string ⟨#[62, 61]⟩, .string ⟨#[60]⟩] 9)).drew := ((Keep.alloc _ _).alloc' _).drew
  go_enter Tryz.func70, Tryz.ntmps70
  go_wp2_with fail
  go_region
  generalize ((w.alloc (.cells #[.string n, .int .i64 1, .int .i64 ↑v, .int .i64 ↑sl, .string f, .bool on] 23)).alloc (.cells #[.string ⟨#[]⟩, .string ⟨#[61]⟩, .string ⟨#[62, 61]⟩, .string ⟨#[60]⟩] 9)).drew = W at a0 k0 ⊢
  obtain ⟨hc, _, _⟩ := a0.out.facts
  go_wp2_with fail
  refine (itoa_two v hv _).mono ?_
  rintro e w' ⟨dv, rfl, HV, hdv, hw⟩
  rw [hw]
  clear hw
  go_wp2_with fail
  refine (itoa_two sl hsl2 _).mono ?_
  rintro e w' ⟨ds, rfl, HS, hds, hw⟩
  rw [hw]
  clear hw
  have hmm := @run_makeMap Tryz.prog
  have hi1 := ins_one W ⟨#[43]⟩
  have hi2 := ins_two W ⟨#[43]⟩ ⟨#[45]⟩
  have hlk := look_two W ⟨#[43]⟩ ⟨#[45]⟩ on
  obtain ⟨m, hm, hm1⟩ : ∃ m : ByteArray, Hid ((if on then ⟨#[43]⟩ else ⟨#[45]⟩ : ByteArray) = m) ∧ m.size = 1 := ⟨_, rfl, by cases on <;> rfl⟩
  rw [hm.out] at hlk
  have hm2 : m.size ≤ 1 := by omega
  clear hm1
  have hb : w.heap.size < W.heap.size := a0.out.facts.2.2
  go_wp2_with fail
  go_ret
  have HM : Hid (m.data.toList = [mk]) := by show _ = _; rw [← hm.out, HMK.out]; cases on <;> rfl
  exact ⟨⟨_, rfl, by simp [HV.out, signL, HS.out, HM.out]⟩, k0.alloc' _⟩

set_option maxHeartbeats 4000000 in
set_option maxRecDepth 100000 in
theorem refText_200 (n f : ByteArray) (v sl : Nat) (on : Bool) (w : World) (hn : n.size ≤ 8) (hv : v < 100) (hsl : ((sl : Int) != 0) = false) (hfe : f.toList.isEmpty = true) :
    Calls Tryz.prog 70 #[.agg #[.string n, .int .i64 2, .int .i64 ↑v, .int .i64 ↑sl, .string f, .bool on]] w fun e w' => (∃ t : ByteArray, e = .returned (.string t) ∧ t.data.toList = (n.data.toList ++ signL 2 ++ Lib.decDigits v)) ∧ Keep w w' := by
  have a0 : Hid (AtomAt w.heap.size n 2 ↑v ↑sl f on ((w.alloc (.cells #[.string n, .int .i64 2, .int .i64 ↑v, .int .i64 ↑sl, .string f, .bool on] 23)).alloc (.cells #[.string ⟨#[]⟩, .string ⟨#[61]⟩, .string ⟨#[62, 61]⟩, .string ⟨#[60]⟩] 9)).drew) := two_first w _ _
  have k0 : Keep w ((w.alloc (.cells #[.string n, .int .i64 2, .int .i64 ↑v, .int .i64 ↑sl, .string f, .bool on] 23)).alloc (.cells #[.string ⟨#[]⟩, .string ⟨#[61]⟩, .string ⟨#[62, 61]⟩, .string ⟨#[60]⟩] 9)).drew := ((Keep.alloc _ _).alloc' _).drew
  go_enter Tryz.func70, Tryz.ntmps70
  go_wp2_with fail
  go_region
  generalize ((w.alloc (.cells #[.string n, .int .i64 2, .int .i64 ↑v, .int .i64 ↑sl, .string f, .bool on] 23)).alloc (.cells #[.string ⟨#[]⟩, .string ⟨#[61]⟩, .string ⟨#[62, 61]⟩, .string ⟨#[60]⟩] 9)).drew = W at a0 k0 ⊢
  obtain ⟨hc, _, _⟩ := a0.out.facts
  go_wp2_with fail
  refine (itoa_two v hv _).mono ?_
  rintro e w' ⟨dv, rfl, HV, hdv, hw⟩
  rw [hw]
  clear hw
  go_wp2_with fail
  go_ret
  exact ⟨⟨_, rfl, by simp [HV.out, signL]⟩, k0⟩

set_option maxHeartbeats 4000000 in
set_option maxRecDepth 100000 in
theorem refText_201 (n f : ByteArray) (v sl : Nat) (on : Bool) (w : World) (hn : n.size ≤ 8) (hv : v < 100) (hsl : ((sl : Int) != 0) = false) (hf : f.size ≤ 8) (hfe : f.toList.isEmpty = false) (mk : UInt8) (HMK : Hid (mk = if on then 43 else 45)) :
    Calls Tryz.prog 70 #[.agg #[.string n, .int .i64 2, .int .i64 ↑v, .int .i64 ↑sl, .string f, .bool on]] w fun e w' => (∃ t : ByteArray, e = .returned (.string t) ∧ t.data.toList = ((n.data.toList ++ signL 2 ++ Lib.decDigits v) ++ [mk] ++ f.data.toList)) ∧ Keep w w' := by
  have a0 : Hid (AtomAt w.heap.size n 2 ↑v ↑sl f on ((w.alloc (.cells #[.string n, .int .i64 2, .int .i64 ↑v, .int .i64 ↑sl, .string f, .bool on] 23)).alloc (.cells #[.string ⟨#[]⟩, .string ⟨#[61]⟩, .string ⟨#[62, 61]⟩, .string ⟨#[60]⟩] 9)).drew) := two_first w _ _
  have k0 : Keep w ((w.alloc (.cells #[.string n, .int .i64 2, .int .i64 ↑v, .int .i64 ↑sl, .string f, .bool on] 23)).alloc (.cells #[.string ⟨#[]⟩, .string ⟨#[61]⟩, .string ⟨#[62, 61]⟩, .string ⟨#[60]⟩] 9)).drew := ((Keep.alloc _ _).alloc' _).drew
  go_enter Tryz.func70, Tryz.ntmps70
  go_wp2_with fail
  go_region
  generalize ((w.alloc (.cells #[.string n, .int .i64 2, .int .i64 ↑v, .int .i64 ↑sl, .string f, .bool on] 23)).alloc (.cells #[.string ⟨#[]⟩, .string ⟨#[61]⟩, .string ⟨#[62, 61]⟩, .string ⟨#[60]⟩] 9)).drew = W at a0 k0 ⊢
  obtain ⟨hc, _, _⟩ := a0.out.facts
  go_wp2_with fail
  refine (itoa_two v hv _).mono ?_
  rintro e w' ⟨dv, rfl, HV, hdv, hw⟩
  rw [hw]
  clear hw
  have hmm := @run_makeMap Tryz.prog
  have hi1 := ins_one W ⟨#[43]⟩
  have hi2 := ins_two W ⟨#[43]⟩ ⟨#[45]⟩
  have hlk := look_two W ⟨#[43]⟩ ⟨#[45]⟩ on
  obtain ⟨m, hm, hm1⟩ : ∃ m : ByteArray, Hid ((if on then ⟨#[43]⟩ else ⟨#[45]⟩ : ByteArray) = m) ∧ m.size = 1 := ⟨_, rfl, by cases on <;> rfl⟩
  rw [hm.out] at hlk
  have hm2 : m.size ≤ 1 := by omega
  clear hm1
  have hb : w.heap.size < W.heap.size := a0.out.facts.2.2
  go_wp2_with fail
  go_ret
  have HM : Hid (m.data.toList = [mk]) := by show _ = _; rw [← hm.out, HMK.out]; cases on <;> rfl
  exact ⟨⟨_, rfl, by simp [HV.out, signL, HM.out]⟩, k0.alloc' _⟩

set_option maxHeartbeats 4000000 in
set_option maxRecDepth 100000 in
theorem refText_210 (n f : ByteArray) (v sl : Nat) (on : Bool) (w : World) (hn : n.size ≤ 8) (hv : v < 100) (hsl : ((sl : Int) != 0) = true) (hsl2 : sl < 100) (hfe : f.toList.isEmpty = true) :
    Calls Tryz.prog 70 #[.agg #[.string n, .int .i64 2, .int .i64 ↑v, .int .i64 ↑sl, .string f, .bool on]] w fun e w' => (∃ t : ByteArray, e = .returned (.string t) ∧ t.data.toList = ((n.data.toList ++ signL 2 ++ Lib.decDigits v) ++ [58] ++ Lib.decDigits sl)) ∧ Keep w w' := by
  have a0 : Hid (AtomAt w.heap.size n 2 ↑v ↑sl f on ((w.alloc (.cells #[.string n, .int .i64 2, .int .i64 ↑v, .int .i64 ↑sl, .string f, .bool on] 23)).alloc (.cells #[.string ⟨#[]⟩, .string ⟨#[61]⟩, .string ⟨#[62, 61]⟩, .string ⟨#[60]⟩] 9)).drew) := two_first w _ _
  have k0 : Keep w ((w.alloc (.cells #[.string n, .int .i64 2, .int .i64 ↑v, .int .i64 ↑sl, .string f, .bool on] 23)).alloc (.cells #[.string ⟨#[]⟩, .string ⟨#[61]⟩, .string ⟨#[62, 61]⟩, .string ⟨#[60]⟩] 9)).drew := ((Keep.alloc _ _).alloc' _).drew
  go_enter Tryz.func70, Tryz.ntmps70
  go_wp2_with fail
  go_region
  generalize ((w.alloc (.cells #[.string n, .int .i64 2, .int .i64 ↑v, .int .i64 ↑sl, .string f, .bool on] 23)).alloc (.cells #[.string ⟨#[]⟩, .string ⟨#[61]⟩, .string ⟨#[62, 61]⟩, .string ⟨#[60]⟩] 9)).drew = W at a0 k0 ⊢
  obtain ⟨hc, _, _⟩ := a0.out.facts
  go_wp2_with fail
  refine (itoa_two v hv _).mono ?_
  rintro e w' ⟨dv, rfl, HV, hdv, hw⟩
  rw [hw]
  clear hw
  go_wp2_with fail
  refine (itoa_two sl hsl2 _).mono ?_
  rintro e w' ⟨ds, rfl, HS, hds, hw⟩
  rw [hw]
  clear hw
  go_wp2_with fail
  go_ret
  exact ⟨⟨_, rfl, by simp [HV.out, signL, HS.out]⟩, k0⟩

set_option maxHeartbeats 4000000 in
set_option maxRecDepth 100000 in
theorem refText_211 (n f : ByteArray) (v sl : Nat) (on : Bool) (w : World) (hn : n.size ≤ 8) (hv : v < 100) (hsl : ((sl : Int) != 0) = true) (hsl2 : sl < 100) (hf : f.size ≤ 8) (hfe : f.toList.isEmpty = false) (mk : UInt8) (HMK : Hid (mk = if on then 43 else 45)) :
    Calls Tryz.prog 70 #[.agg #[.string n, .int .i64 2, .int .i64 ↑v, .int .i64 ↑sl, .string f, .bool on]] w fun e w' => (∃ t : ByteArray, e = .returned (.string t) ∧ t.data.toList = (((n.data.toList ++ signL 2 ++ Lib.decDigits v) ++ [58] ++ Lib.decDigits sl) ++ [mk] ++ f.data.toList)) ∧ Keep w w' := by
  have a0 : Hid (AtomAt w.heap.size n 2 ↑v ↑sl f on ((w.alloc (.cells #[.string n, .int .i64 2, .int .i64 ↑v, .int .i64 ↑sl, .string f, .bool on] 23)).alloc (.cells #[.string ⟨#[]⟩, .string ⟨#[61]⟩, .string ⟨#[62, 61]⟩, .string ⟨#[60]⟩] 9)).drew) := two_first w _ _
  have k0 : Keep w ((w.alloc (.cells #[.string n, .int .i64 2, .int .i64 ↑v, .int .i64 ↑sl, .string f, .bool on] 23)).alloc (.cells #[.string ⟨#[]⟩, .string ⟨#[61]⟩, .string ⟨#[62, 61]⟩, .string ⟨#[60]⟩] 9)).drew := ((Keep.alloc _ _).alloc' _).drew
  go_enter Tryz.func70, Tryz.ntmps70
  go_wp2_with fail
  go_region
  generalize ((w.alloc (.cells #[.string n, .int .i64 2, .int .i64 ↑v, .int .i64 ↑sl, .string f, .bool on] 23)).alloc (.cells #[.string ⟨#[]⟩, .string ⟨#[61]⟩, .string ⟨#[62, 61]⟩, .string ⟨#[60]⟩] 9)).drew = W at a0 k0 ⊢
  obtain ⟨hc, _, _⟩ := a0.out.facts
  go_wp2_with fail
  refine (itoa_two v hv _).mono ?_
  rintro e w' ⟨dv, rfl, HV, hdv, hw⟩
  rw [hw]
  clear hw
  go_wp2_with fail
  refine (itoa_two sl hsl2 _).mono ?_
  rintro e w' ⟨ds, rfl, HS, hds, hw⟩
  rw [hw]
  clear hw
  have hmm := @run_makeMap Tryz.prog
  have hi1 := ins_one W ⟨#[43]⟩
  have hi2 := ins_two W ⟨#[43]⟩ ⟨#[45]⟩
  have hlk := look_two W ⟨#[43]⟩ ⟨#[45]⟩ on
  obtain ⟨m, hm, hm1⟩ : ∃ m : ByteArray, Hid ((if on then ⟨#[43]⟩ else ⟨#[45]⟩ : ByteArray) = m) ∧ m.size = 1 := ⟨_, rfl, by cases on <;> rfl⟩
  rw [hm.out] at hlk
  have hm2 : m.size ≤ 1 := by omega
  clear hm1
  have hb : w.heap.size < W.heap.size := a0.out.facts.2.2
  go_wp2_with fail
  go_ret
  have HM : Hid (m.data.toList = [mk]) := by show _ = _; rw [← hm.out, HMK.out]; cases on <;> rfl
  exact ⟨⟨_, rfl, by simp [HV.out, signL, HS.out, HM.out]⟩, k0.alloc' _⟩

set_option maxHeartbeats 4000000 in
set_option maxRecDepth 100000 in
theorem refText_300 (n f : ByteArray) (v sl : Nat) (on : Bool) (w : World) (hn : n.size ≤ 8) (hv : v < 100) (hsl : ((sl : Int) != 0) = false) (hfe : f.toList.isEmpty = true) :
    Calls Tryz.prog 70 #[.agg #[.string n, .int .i64 3, .int .i64 ↑v, .int .i64 ↑sl, .string f, .bool on]] w fun e w' => (∃ t : ByteArray, e = .returned (.string t) ∧ t.data.toList = (n.data.toList ++ signL 3 ++ Lib.decDigits v)) ∧ Keep w w' := by
  have a0 : Hid (AtomAt w.heap.size n 3 ↑v ↑sl f on ((w.alloc (.cells #[.string n, .int .i64 3, .int .i64 ↑v, .int .i64 ↑sl, .string f, .bool on] 23)).alloc (.cells #[.string ⟨#[]⟩, .string ⟨#[61]⟩, .string ⟨#[62, 61]⟩, .string ⟨#[60]⟩] 9)).drew) := two_first w _ _
  have k0 : Keep w ((w.alloc (.cells #[.string n, .int .i64 3, .int .i64 ↑v, .int .i64 ↑sl, .string f, .bool on] 23)).alloc (.cells #[.string ⟨#[]⟩, .string ⟨#[61]⟩, .string ⟨#[62, 61]⟩, .string ⟨#[60]⟩] 9)).drew := ((Keep.alloc _ _).alloc' _).drew
  go_enter Tryz.func70, Tryz.ntmps70
  go_wp2_with fail
  go_region
  generalize ((w.alloc (.cells #[.string n, .int .i64 3, .int .i64 ↑v, .int .i64 ↑sl, .string f, .bool on] 23)).alloc (.cells #[.string ⟨#[]⟩, .string ⟨#[61]⟩, .string ⟨#[62, 61]⟩, .string ⟨#[60]⟩] 9)).drew = W at a0 k0 ⊢
  obtain ⟨hc, _, _⟩ := a0.out.facts
  go_wp2_with fail
  refine (itoa_two v hv _).mono ?_
  rintro e w' ⟨dv, rfl, HV, hdv, hw⟩
  rw [hw]
  clear hw
  go_wp2_with fail
  go_ret
  exact ⟨⟨_, rfl, by simp [HV.out, signL]⟩, k0⟩

set_option maxHeartbeats 4000000 in
set_option maxRecDepth 100000 in
theorem refText_301 (n f : ByteArray) (v sl : Nat) (on : Bool) (w : World) (hn : n.size ≤ 8) (hv : v < 100) (hsl : ((sl : Int) != 0) = false) (hf : f.size ≤ 8) (hfe : f.toList.isEmpty = false) (mk : UInt8) (HMK : Hid (mk = if on then 43 else 45)) :
    Calls Tryz.prog 70 #[.agg #[.string n, .int .i64 3, .int .i64 ↑v, .int .i64 ↑sl, .string f, .bool on]] w fun e w' => (∃ t : ByteArray, e = .returned (.string t) ∧ t.data.toList = ((n.data.toList ++ signL 3 ++ Lib.decDigits v) ++ [mk] ++ f.data.toList)) ∧ Keep w w' := by
  have a0 : Hid (AtomAt w.heap.size n 3 ↑v ↑sl f on ((w.alloc (.cells #[.string n, .int .i64 3, .int .i64 ↑v, .int .i64 ↑sl, .string f, .bool on] 23)).alloc (.cells #[.string ⟨#[]⟩, .string ⟨#[61]⟩, .string ⟨#[62, 61]⟩, .string ⟨#[60]⟩] 9)).drew) := two_first w _ _
  have k0 : Keep w ((w.alloc (.cells #[.string n, .int .i64 3, .int .i64 ↑v, .int .i64 ↑sl, .string f, .bool on] 23)).alloc (.cells #[.string ⟨#[]⟩, .string ⟨#[61]⟩, .string ⟨#[62, 61]⟩, .string ⟨#[60]⟩] 9)).drew := ((Keep.alloc _ _).alloc' _).drew
  go_enter Tryz.func70, Tryz.ntmps70
  go_wp2_with fail
  go_region
  generalize ((w.alloc (.cells #[.string n, .int .i64 3, .int .i64 ↑v, .int .i64 ↑sl, .string f, .bool on] 23)).alloc (.cells #[.string ⟨#[]⟩, .string ⟨#[61]⟩, .string ⟨#[62, 61]⟩, .string ⟨#[60]⟩] 9)).drew = W at a0 k0 ⊢
  obtain ⟨hc, _, _⟩ := a0.out.facts
  go_wp2_with fail
  refine (itoa_two v hv _).mono ?_
  rintro e w' ⟨dv, rfl, HV, hdv, hw⟩
  rw [hw]
  clear hw
  have hmm := @run_makeMap Tryz.prog
  have hi1 := ins_one W ⟨#[43]⟩
  have hi2 := ins_two W ⟨#[43]⟩ ⟨#[45]⟩
  have hlk := look_two W ⟨#[43]⟩ ⟨#[45]⟩ on
  obtain ⟨m, hm, hm1⟩ : ∃ m : ByteArray, Hid ((if on then ⟨#[43]⟩ else ⟨#[45]⟩ : ByteArray) = m) ∧ m.size = 1 := ⟨_, rfl, by cases on <;> rfl⟩
  rw [hm.out] at hlk
  have hm2 : m.size ≤ 1 := by omega
  clear hm1
  have hb : w.heap.size < W.heap.size := a0.out.facts.2.2
  go_wp2_with fail
  go_ret
  have HM : Hid (m.data.toList = [mk]) := by show _ = _; rw [← hm.out, HMK.out]; cases on <;> rfl
  exact ⟨⟨_, rfl, by simp [HV.out, signL, HM.out]⟩, k0.alloc' _⟩

set_option maxHeartbeats 4000000 in
set_option maxRecDepth 100000 in
theorem refText_310 (n f : ByteArray) (v sl : Nat) (on : Bool) (w : World) (hn : n.size ≤ 8) (hv : v < 100) (hsl : ((sl : Int) != 0) = true) (hsl2 : sl < 100) (hfe : f.toList.isEmpty = true) :
    Calls Tryz.prog 70 #[.agg #[.string n, .int .i64 3, .int .i64 ↑v, .int .i64 ↑sl, .string f, .bool on]] w fun e w' => (∃ t : ByteArray, e = .returned (.string t) ∧ t.data.toList = ((n.data.toList ++ signL 3 ++ Lib.decDigits v) ++ [58] ++ Lib.decDigits sl)) ∧ Keep w w' := by
  have a0 : Hid (AtomAt w.heap.size n 3 ↑v ↑sl f on ((w.alloc (.cells #[.string n, .int .i64 3, .int .i64 ↑v, .int .i64 ↑sl, .string f, .bool on] 23)).alloc (.cells #[.string ⟨#[]⟩, .string ⟨#[61]⟩, .string ⟨#[62, 61]⟩, .string ⟨#[60]⟩] 9)).drew) := two_first w _ _
  have k0 : Keep w ((w.alloc (.cells #[.string n, .int .i64 3, .int .i64 ↑v, .int .i64 ↑sl, .string f, .bool on] 23)).alloc (.cells #[.string ⟨#[]⟩, .string ⟨#[61]⟩, .string ⟨#[62, 61]⟩, .string ⟨#[60]⟩] 9)).drew := ((Keep.alloc _ _).alloc' _).drew
  go_enter Tryz.func70, Tryz.ntmps70
  go_wp2_with fail
  go_region
  generalize ((w.alloc (.cells #[.string n, .int .i64 3, .int .i64 ↑v, .int .i64 ↑sl, .string f, .bool on] 23)).alloc (.cells #[.string ⟨#[]⟩, .string ⟨#[61]⟩, .string ⟨#[62, 61]⟩, .string ⟨#[60]⟩] 9)).drew = W at a0 k0 ⊢
  obtain ⟨hc, _, _⟩ := a0.out.facts
  go_wp2_with fail
  refine (itoa_two v hv _).mono ?_
  rintro e w' ⟨dv, rfl, HV, hdv, hw⟩
  rw [hw]
  clear hw
  go_wp2_with fail
  refine (itoa_two sl hsl2 _).mono ?_
  rintro e w' ⟨ds, rfl, HS, hds, hw⟩
  rw [hw]
  clear hw
  go_wp2_with fail
  go_ret
  exact ⟨⟨_, rfl, by simp [HV.out, signL, HS.out]⟩, k0⟩

set_option maxHeartbeats 4000000 in
set_option maxRecDepth 100000 in
theorem refText_311 (n f : ByteArray) (v sl : Nat) (on : Bool) (w : World) (hn : n.size ≤ 8) (hv : v < 100) (hsl : ((sl : Int) != 0) = true) (hsl2 : sl < 100) (hf : f.size ≤ 8) (hfe : f.toList.isEmpty = false) (mk : UInt8) (HMK : Hid (mk = if on then 43 else 45)) :
    Calls Tryz.prog 70 #[.agg #[.string n, .int .i64 3, .int .i64 ↑v, .int .i64 ↑sl, .string f, .bool on]] w fun e w' => (∃ t : ByteArray, e = .returned (.string t) ∧ t.data.toList = (((n.data.toList ++ signL 3 ++ Lib.decDigits v) ++ [58] ++ Lib.decDigits sl) ++ [mk] ++ f.data.toList)) ∧ Keep w w' := by
  have a0 : Hid (AtomAt w.heap.size n 3 ↑v ↑sl f on ((w.alloc (.cells #[.string n, .int .i64 3, .int .i64 ↑v, .int .i64 ↑sl, .string f, .bool on] 23)).alloc (.cells #[.string ⟨#[]⟩, .string ⟨#[61]⟩, .string ⟨#[62, 61]⟩, .string ⟨#[60]⟩] 9)).drew) := two_first w _ _
  have k0 : Keep w ((w.alloc (.cells #[.string n, .int .i64 3, .int .i64 ↑v, .int .i64 ↑sl, .string f, .bool on] 23)).alloc (.cells #[.string ⟨#[]⟩, .string ⟨#[61]⟩, .string ⟨#[62, 61]⟩, .string ⟨#[60]⟩] 9)).drew := ((Keep.alloc _ _).alloc' _).drew
  go_enter Tryz.func70, Tryz.ntmps70
  go_wp2_with fail
  go_region
  generalize ((w.alloc (.cells #[.string n, .int .i64 3, .int .i64 ↑v, .int .i64 ↑sl, .string f, .bool on] 23)).alloc (.cells #[.string ⟨#[]⟩, .string ⟨#[61]⟩, .string ⟨#[62, 61]⟩, .string ⟨#[60]⟩] 9)).drew = W at a0 k0 ⊢
  obtain ⟨hc, _, _⟩ := a0.out.facts
  go_wp2_with fail
  refine (itoa_two v hv _).mono ?_
  rintro e w' ⟨dv, rfl, HV, hdv, hw⟩
  rw [hw]
  clear hw
  go_wp2_with fail
  refine (itoa_two sl hsl2 _).mono ?_
  rintro e w' ⟨ds, rfl, HS, hds, hw⟩
  rw [hw]
  clear hw
  have hmm := @run_makeMap Tryz.prog
  have hi1 := ins_one W ⟨#[43]⟩
  have hi2 := ins_two W ⟨#[43]⟩ ⟨#[45]⟩
  have hlk := look_two W ⟨#[43]⟩ ⟨#[45]⟩ on
  obtain ⟨m, hm, hm1⟩ : ∃ m : ByteArray, Hid ((if on then ⟨#[43]⟩ else ⟨#[45]⟩ : ByteArray) = m) ∧ m.size = 1 := ⟨_, rfl, by cases on <;> rfl⟩
  rw [hm.out] at hlk
  have hm2 : m.size ≤ 1 := by omega
  clear hm1
  have hb : w.heap.size < W.heap.size := a0.out.facts.2.2
  go_wp2_with fail
  go_ret
  have HM : Hid (m.data.toList = [mk]) := by show _ = _; rw [← hm.out, HMK.out]; cases on <;> rfl
  exact ⟨⟨_, rfl, by simp [HV.out, signL, HS.out, HM.out]⟩, k0.alloc' _⟩

theorem refText_ok (n f : ByteArray) (op v sl : Int) (on : Bool) (w : World) (hc : chk n.data.toList op v sl f.data.toList on = 0) :
    Calls Tryz.prog 70 #[.agg #[.string n, .int .i64 op, .int .i64 v, .int .i64 sl, .string f, .bool on]] w fun e w' => (∃ t : ByteArray, e = .returned (.string t) ∧ t.data.toList = textOf n.data.toList op v sl f.data.toList on) ∧ Keep w w' := by
  obtain ⟨h1, h2, h3, h4, h5, h6, h7, h8⟩ := chk_zero hc
  have hv0 : 0 ≤ v ∧ v ≤ 99 := by
    by_cases e : op = 0
    · subst e; rw [verB_zero h7]; decide
    · have := verB_pos e h7; omega
  obtain ⟨v, rfl⟩ := Int.eq_ofNat_of_zero_le hv0.1
  obtain ⟨sl, rfl⟩ := Int.eq_ofNat_of_zero_le h5
  have hn8 : n.size ≤ 8 := by have := nameB_le h1; simpa using this
  have hf8 : f.size ≤ 8 := by
    rcases h2 with h2 | h2
    · have := size_list f; rw [h2] at this; simp at this; omega
    · have := nameB_le h2; simpa using this
  have c2 : (sl : Int) ≠ 0 → ((sl : Int) != 0) = true := fun e => by simpa using e
  have ho : op = 0 ∨ op = 1 ∨ op = 2 ∨ op = 3 := by omega
  rcases ho with rfl | rfl | rfl | rfl
  · by_cases es : (sl : Int) = 0
    · by_cases ef : f.data.toList = []
      · have T : textOf n.data.toList 0 v sl f.data.toList on = n.data.toList := by unfold textOf; rw [itoa_nat, itoa_nat, if_pos rfl, if_pos es, if_pos ef]; simp
        rw [T]; exact refText_000 n f v sl on w hn8 (by simp [es]) (empty_true ef)
      · have T : textOf n.data.toList 0 v sl f.data.toList on = (n.data.toList ++ [(if on then 43 else 45 : UInt8)] ++ f.data.toList) := by unfold textOf; rw [itoa_nat, itoa_nat, if_pos rfl, if_pos es, if_neg ef]; simp
        rw [T]; exact refText_001 n f v sl on w hn8 (by simp [es]) hf8 (empty_false ef) _ rfl
    · by_cases ef : f.data.toList = []
      · have T : textOf n.data.toList 0 v sl f.data.toList on = (n.data.toList ++ [58] ++ Lib.decDigits sl) := by unfold textOf; rw [itoa_nat, itoa_nat, if_pos rfl, if_neg es, if_pos ef]; simp
        rw [T]; exact refText_010 n f v sl on w hn8 (c2 es) (by omega) (empty_true ef)
      · have T : textOf n.data.toList 0 v sl f.data.toList on = ((n.data.toList ++ [58] ++ Lib.decDigits sl) ++ [(if on then 43 else 45 : UInt8)] ++ f.data.toList) := by unfold textOf; rw [itoa_nat, itoa_nat, if_pos rfl, if_neg es, if_neg ef]; simp
        rw [T]; exact refText_011 n f v sl on w hn8 (c2 es) (by omega) hf8 (empty_false ef) _ rfl
  · by_cases es : (sl : Int) = 0
    · by_cases ef : f.data.toList = []
      · have T : textOf n.data.toList 1 v sl f.data.toList on = (n.data.toList ++ signL 1 ++ Lib.decDigits v) := by unfold textOf; rw [itoa_nat, itoa_nat, if_neg (by decide), if_pos es, if_pos ef]; simp
        rw [T]; exact refText_100 n f v sl on w hn8 (by omega) (by simp [es]) (empty_true ef)
      · have T : textOf n.data.toList 1 v sl f.data.toList on = ((n.data.toList ++ signL 1 ++ Lib.decDigits v) ++ [(if on then 43 else 45 : UInt8)] ++ f.data.toList) := by unfold textOf; rw [itoa_nat, itoa_nat, if_neg (by decide), if_pos es, if_neg ef]; simp
        rw [T]; exact refText_101 n f v sl on w hn8 (by omega) (by simp [es]) hf8 (empty_false ef) _ rfl
    · by_cases ef : f.data.toList = []
      · have T : textOf n.data.toList 1 v sl f.data.toList on = ((n.data.toList ++ signL 1 ++ Lib.decDigits v) ++ [58] ++ Lib.decDigits sl) := by unfold textOf; rw [itoa_nat, itoa_nat, if_neg (by decide), if_neg es, if_pos ef]; simp
        rw [T]; exact refText_110 n f v sl on w hn8 (by omega) (c2 es) (by omega) (empty_true ef)
      · have T : textOf n.data.toList 1 v sl f.data.toList on = (((n.data.toList ++ signL 1 ++ Lib.decDigits v) ++ [58] ++ Lib.decDigits sl) ++ [(if on then 43 else 45 : UInt8)] ++ f.data.toList) := by unfold textOf; rw [itoa_nat, itoa_nat, if_neg (by decide), if_neg es, if_neg ef]; simp
        rw [T]; exact refText_111 n f v sl on w hn8 (by omega) (c2 es) (by omega) hf8 (empty_false ef) _ rfl
  · by_cases es : (sl : Int) = 0
    · by_cases ef : f.data.toList = []
      · have T : textOf n.data.toList 2 v sl f.data.toList on = (n.data.toList ++ signL 2 ++ Lib.decDigits v) := by unfold textOf; rw [itoa_nat, itoa_nat, if_neg (by decide), if_pos es, if_pos ef]; simp
        rw [T]; exact refText_200 n f v sl on w hn8 (by omega) (by simp [es]) (empty_true ef)
      · have T : textOf n.data.toList 2 v sl f.data.toList on = ((n.data.toList ++ signL 2 ++ Lib.decDigits v) ++ [(if on then 43 else 45 : UInt8)] ++ f.data.toList) := by unfold textOf; rw [itoa_nat, itoa_nat, if_neg (by decide), if_pos es, if_neg ef]; simp
        rw [T]; exact refText_201 n f v sl on w hn8 (by omega) (by simp [es]) hf8 (empty_false ef) _ rfl
    · by_cases ef : f.data.toList = []
      · have T : textOf n.data.toList 2 v sl f.data.toList on = ((n.data.toList ++ signL 2 ++ Lib.decDigits v) ++ [58] ++ Lib.decDigits sl) := by unfold textOf; rw [itoa_nat, itoa_nat, if_neg (by decide), if_neg es, if_pos ef]; simp
        rw [T]; exact refText_210 n f v sl on w hn8 (by omega) (c2 es) (by omega) (empty_true ef)
      · have T : textOf n.data.toList 2 v sl f.data.toList on = (((n.data.toList ++ signL 2 ++ Lib.decDigits v) ++ [58] ++ Lib.decDigits sl) ++ [(if on then 43 else 45 : UInt8)] ++ f.data.toList) := by unfold textOf; rw [itoa_nat, itoa_nat, if_neg (by decide), if_neg es, if_neg ef]; simp
        rw [T]; exact refText_211 n f v sl on w hn8 (by omega) (c2 es) (by omega) hf8 (empty_false ef) _ rfl
  · by_cases es : (sl : Int) = 0
    · by_cases ef : f.data.toList = []
      · have T : textOf n.data.toList 3 v sl f.data.toList on = (n.data.toList ++ signL 3 ++ Lib.decDigits v) := by unfold textOf; rw [itoa_nat, itoa_nat, if_neg (by decide), if_pos es, if_pos ef]; simp
        rw [T]; exact refText_300 n f v sl on w hn8 (by omega) (by simp [es]) (empty_true ef)
      · have T : textOf n.data.toList 3 v sl f.data.toList on = ((n.data.toList ++ signL 3 ++ Lib.decDigits v) ++ [(if on then 43 else 45 : UInt8)] ++ f.data.toList) := by unfold textOf; rw [itoa_nat, itoa_nat, if_neg (by decide), if_pos es, if_neg ef]; simp
        rw [T]; exact refText_301 n f v sl on w hn8 (by omega) (by simp [es]) hf8 (empty_false ef) _ rfl
    · by_cases ef : f.data.toList = []
      · have T : textOf n.data.toList 3 v sl f.data.toList on = ((n.data.toList ++ signL 3 ++ Lib.decDigits v) ++ [58] ++ Lib.decDigits sl) := by unfold textOf; rw [itoa_nat, itoa_nat, if_neg (by decide), if_neg es, if_pos ef]; simp
        rw [T]; exact refText_310 n f v sl on w hn8 (by omega) (c2 es) (by omega) (empty_true ef)
      · have T : textOf n.data.toList 3 v sl f.data.toList on = (((n.data.toList ++ signL 3 ++ Lib.decDigits v) ++ [58] ++ Lib.decDigits sl) ++ [(if on then 43 else 45 : UInt8)] ++ f.data.toList) := by unfold textOf; rw [itoa_nat, itoa_nat, if_neg (by decide), if_neg es, if_neg ef]; simp
        rw [T]; exact refText_311 n f v sl on w hn8 (by omega) (c2 es) (by omega) hf8 (empty_false ef) _ rfl
end Go.Proofs.YtkckkjpkidcbnaaGreatDoor
