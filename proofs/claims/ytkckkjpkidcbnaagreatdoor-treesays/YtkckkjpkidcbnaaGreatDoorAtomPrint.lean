/- atom.Print answers the text that the plain function textOf says, of every atom that may be, and chk's error of every other; nothing that was there is changed; the table of signs is a premise. -/
import Derived.Test.YtkckkjpkidcbnaaGreatDoorAtomCheck
import Derived.Test.YtkckkjpkidcbnaaGreatDoorShelf
namespace Go.Proofs.YtkckkjpkidcbnaaGreatDoor
open Go.RowKit

/-- The table of signs, as the world holds it. -/
def Signs (w : World) : Prop := 0 < w.heap.size ∧ w.cell? ⟨0, 1, none⟩ = some (.string ⟨#[61]⟩) ∧ w.cell? ⟨0, 2, none⟩ = some (.string ⟨#[62, 61]⟩) ∧ w.cell? ⟨0, 3, none⟩ = some (.string ⟨#[60]⟩)
theorem Signs.keep {w w' : World} (h : Signs w) (k : Keep w w') : Signs w' :=
  ⟨Nat.lt_of_lt_of_le h.1 k.size, (k.cells.1 _ _ h.1).trans h.2.1, (k.cells.1 _ _ h.1).trans h.2.2.1, (k.cells.1 _ _ h.1).trans h.2.2.2⟩
theorem Signs.at {w : World} (h : Signs w) {op : Int} (h1 : 1 ≤ op) (h2 : op < 4) : ∃ sg : ByteArray, w.cell? ⟨0, op.toNat, none⟩ = some (.string sg) ∧ Hid (sg.data.toList = signL op) ∧ sg.size ≤ 2 := by
  have : op = 1 ∨ op = 2 ∨ op = 3 := by omega
  rcases this with rfl | rfl | rfl
  · exact ⟨_, h.2.1, rfl, by decide⟩
  · exact ⟨_, h.2.2.1, rfl, by decide⟩
  · exact ⟨_, h.2.2.2, rfl, by decide⟩

theorem wstr (B b : Nat) (l : List UInt8) (s : ByteArray) (w : World) (h : Lib.IsBuilder 119 5 B b (Lib.byteCells l) w) (hl : l.length + s.size ≤ 140737488355328) (hB : B ≤ w.heap.size) :
    Calls Tryz.prog 79 #[.pointer (some ⟨b, 0, none⟩), .string s] w fun e w' => e = .returned (.tuple #[.int .i64 s.size, .nilIface]) ∧ Lib.IsBuilder 119 5 B b (Lib.byteCells (l ++ s.data.toList)) w' ∧ Below B w w' := by
  refine (Tryz.Builder_WriteString B b (Lib.byteCells l) s w h (by simpa [Lib.byteCells] using hl) hB).mono ?_
  rintro e w' ⟨rfl, h1, h2⟩
  refine ⟨rfl, Or.inr ?_, h2⟩
  rw [Lib.strCells_eq] at h1
  simpa [Lib.byteCells] using h1
theorem wbyte (B b : Nat) (l : List UInt8) (c : UInt8) (w : World) (h : Lib.IsBuilder 119 5 B b (Lib.byteCells l) w) (hl : l.length + 1 ≤ 140737488355328) (hB : B ≤ w.heap.size) :
    Calls Tryz.prog 169 #[.pointer (some ⟨b, 0, none⟩), .int .u8 c.toNat] w fun e w' => e = .returned .nilIface ∧ Lib.IsBuilder 119 5 B b (Lib.byteCells (l ++ [c])) w' ∧ Below B w w' := by
  refine (Tryz.Builder_WriteByte B b (Lib.byteCells l) c.toNat w h (by simpa [Lib.byteCells] using hl) hB).mono ?_
  rintro e w' ⟨rfl, h1, h2⟩
  refine ⟨rfl, Or.inr ?_, h2⟩
  simpa [Lib.byteCells] using h1
theorem mark_any (on : Bool) (m : UInt8) (hm : m = if on then 43 else 45) (w : World) :
    Calls Tryz.prog 170 #[.bool on] w fun e w' => e = .returned (.int .u8 (m.toNat : Int)) ∧ w' = w := by
  subst hm
  cases on
  · go_enter Tryz.func170, Tryz.ntmps170
    go_wp2
    go_ret
    exact ⟨rfl, rfl⟩
  · go_enter Tryz.func170, Tryz.ntmps170
    go_wp2
    go_ret
    exact ⟨rfl, rfl⟩
theorem decDigits_le {i : Nat} (h : i < 100) : (Lib.decDigits i).length ≤ 2 := by
  by_cases h1 : i < 10
  · rw [Lib.decDigits_one h1]; simp
  · rw [Lib.decDigits_two h1 h]; simp
theorem itoa_nat (i : Nat) : Lib.itoa (i : Int) = Lib.decDigits i := by
  unfold Lib.itoa; rw [if_neg (by omega)]; simp
theorem size_list (s : ByteArray) : s.data.toList.length = s.size := by simp
theorem mk_size (l : List UInt8) : (ByteArray.mk l.toArray).size = l.length := by simp [ByteArray.size]
/-- The box of the atom, cell by cell. -/
def Boxed (b : Nat) (cs : Array Value) (w : World) : Prop := b < w.heap.size ∧ ∀ o, w.cell? ⟨b, o, none⟩ = cs[o]?
theorem Boxed.keep {b B : Nat} {cs : Array Value} {w w' : World} (h : Boxed b cs w) (k : Below B w w') (hB : b < B) : Boxed b cs w' :=
  ⟨Nat.lt_of_lt_of_le h.1 k.size, fun o => (k.cell (p := ⟨b, o, none⟩) hB).trans (h.2 o)⟩
theorem Boxed.new (w : World) (cs : Array Value) (t : TypeId) : Boxed w.heap.size cs (w.alloc (.cells cs t)) :=
  ⟨by simp, fun o => by show (match (w.alloc (.cells cs t)).heap[w.heap.size]? with | some (Obj.cells c _ _) => c[o]? | _ => none) = _; rw [show (w.alloc (.cells cs t)).heap[w.heap.size]? = some (.cells cs t) from by show (w.heap.push _)[w.heap.size]? = _; simp]⟩
attribute [local simp] mk_size
theorem ret_str {a b : List UInt8} (h : a = b) : Ending.returned (.tuple #[.string ⟨a.toArray⟩, .int .i64 0]) = .returned (.tuple #[.string ⟨b.toArray⟩, .int .i64 0]) := by rw [h]

set_option maxHeartbeats 2000000 in
set_option maxRecDepth 100000 in
theorem print_000 (n f : ByteArray) (op : Int) (v sl : Nat) (on : Bool) (w : World) (hs : Signs w) (HC : Hid (chk n.data.toList op v sl f.data.toList on = 0)) (hn : n.size ≤ 8) (ho : (op != 0) = false) (hsl : ((sl : Int) != 0) = false) (hfe : f.toList.isEmpty = true) :
    Calls Tryz.prog 117 #[.agg #[.string n, .int .i64 op, .int .i64 ↑v, .int .i64 ↑sl, .string f, .bool on]] w fun e w' => e = .returned (.tuple #[.string ⟨(n.data.toList).toArray⟩, .int .i64 0]) ∧ Keep w w' := by
  have hbox := Boxed.new w #[.string n, .int .i64 op, .int .i64 ↑v, .int .i64 ↑sl, .string f, .bool on] 23
  have k0 := Keep.alloc w (.cells #[.string n, .int .i64 op, .int .i64 ↑v, .int .i64 ↑sl, .string f, .bool on] 23)
  have HB : Hid (Boxed w.heap.size #[.string n, .int .i64 op, .int .i64 ↑v, .int .i64 ↑sl, .string f, .bool on] (w.alloc (.cells #[.string n, .int .i64 op, .int .i64 ↑v, .int .i64 ↑sl, .string f, .bool on] 23))) := hbox
  clear hbox
  have hgl := hs.1
  clear hs
  have hl0 := size_list n
  have HL0 : Hid (n.data.toList.length = n.size) := hl0
  clear hl0
  go_enter Tryz.func117, Tryz.ntmps117
  go_wp2_with fail
  refine (check_any _ _ _ _ _ _ _).mono ?_
  rintro e w1 ⟨rfl, hk1⟩
  rw [HC.out]
  have k1 : Keep w w1 := k0.trans hk1
  have b1 := HB.out.keep hk1 (by simp)
  have hz1 : w.heap.size < w1.heap.size := b1.1
  have hx1 := b1.2
  have kb : Keep w (w1.alloc (.cells #[.pointer none, .slice none 0 0] 119)) := k1.alloc' _
  go_wp2_with fail
  refine (wstr w1.heap.size w1.heap.size [] n _ (Lib.fresh_isBuilder _ _ _) (by simp; omega) (by simp)).mono ?_
  rintro e w2 ⟨rfl, hB2, hk2⟩
  have k2 : Below w1.heap.size w1 w2 := ((Below.refl _ _).alloc (Nat.le_refl _) _).trans hk2
  rw [List.nil_append] at hB2
  have hx2 := (b1.keep k2 hz1).2
  go_wp2_with fail
  refine (Tryz.Builder_String_any w1.heap.size w1.heap.size (n.data.toList) _ hB2 k2.size).mono ?_
  rintro e w99 ⟨rfl, hk99⟩
  go_wp2_with fail
  go_ret2
  exact ⟨rfl, k1.trans (k2.trans hk99)⟩

set_option maxHeartbeats 2000000 in
set_option maxRecDepth 100000 in
theorem print_001 (n f : ByteArray) (op : Int) (v sl : Nat) (on : Bool) (w : World) (hs : Signs w) (HC : Hid (chk n.data.toList op v sl f.data.toList on = 0)) (hn : n.size ≤ 8) (hf : f.size ≤ 8) (ho : (op != 0) = false) (hsl : ((sl : Int) != 0) = false) (hfe : f.toList.isEmpty = false) (m : UInt8) (HM : Hid (m = if on then 43 else 45)) :
    Calls Tryz.prog 117 #[.agg #[.string n, .int .i64 op, .int .i64 ↑v, .int .i64 ↑sl, .string f, .bool on]] w fun e w' => e = .returned (.tuple #[.string ⟨((n.data.toList ++ [m] ++ f.data.toList)).toArray⟩, .int .i64 0]) ∧ Keep w w' := by
  have hbox := Boxed.new w #[.string n, .int .i64 op, .int .i64 ↑v, .int .i64 ↑sl, .string f, .bool on] 23
  have k0 := Keep.alloc w (.cells #[.string n, .int .i64 op, .int .i64 ↑v, .int .i64 ↑sl, .string f, .bool on] 23)
  have HB : Hid (Boxed w.heap.size #[.string n, .int .i64 op, .int .i64 ↑v, .int .i64 ↑sl, .string f, .bool on] (w.alloc (.cells #[.string n, .int .i64 op, .int .i64 ↑v, .int .i64 ↑sl, .string f, .bool on] 23))) := hbox
  clear hbox
  have hgl := hs.1
  clear hs
  have hl0 := size_list n
  have HL0 : Hid (n.data.toList.length = n.size) := hl0
  clear hl0
  go_enter Tryz.func117, Tryz.ntmps117
  go_wp2_with fail
  refine (check_any _ _ _ _ _ _ _).mono ?_
  rintro e w1 ⟨rfl, hk1⟩
  rw [HC.out]
  have k1 : Keep w w1 := k0.trans hk1
  have b1 := HB.out.keep hk1 (by simp)
  have hz1 : w.heap.size < w1.heap.size := b1.1
  have hx1 := b1.2
  have kb : Keep w (w1.alloc (.cells #[.pointer none, .slice none 0 0] 119)) := k1.alloc' _
  go_wp2_with fail
  refine (wstr w1.heap.size w1.heap.size [] n _ (Lib.fresh_isBuilder _ _ _) (by simp; omega) (by simp)).mono ?_
  rintro e w2 ⟨rfl, hB2, hk2⟩
  have k2 : Below w1.heap.size w1 w2 := ((Below.refl _ _).alloc (Nat.le_refl _) _).trans hk2
  rw [List.nil_append] at hB2
  have hx2 := (b1.keep k2 hz1).2
  go_wp2_with fail
  refine (mark_any on m HM.out _).mono ?_
  rintro e wi ⟨rfl, hwi⟩
  rw [hwi]
  clear hwi wi
  go_wp2_with fail
  refine (wbyte w1.heap.size w1.heap.size (n.data.toList) m _ hB2 (by simp; omega) k2.size).mono ?_
  rintro e w3 ⟨rfl, hB3, hk3⟩
  have k3 : Below w1.heap.size w1 w3 := k2.trans hk3
  have hx3 := (b1.keep k3 hz1).2
  clear hx2
  go_wp2_with fail
  refine (wstr w1.heap.size w1.heap.size (n.data.toList ++ [m]) f _ hB3 (by simp; omega) k3.size).mono ?_
  rintro e w4 ⟨rfl, hB4, hk4⟩
  have k4 : Below w1.heap.size w1 w4 := k3.trans hk4
  have hx4 := (b1.keep k4 hz1).2
  clear hx3
  go_wp2_with fail
  refine (Tryz.Builder_String_any w1.heap.size w1.heap.size (n.data.toList ++ [m] ++ f.data.toList) _ hB4 k4.size).mono ?_
  rintro e w99 ⟨rfl, hk99⟩
  go_wp2_with fail
  go_ret2
  exact ⟨ret_str (by simp), k1.trans (k4.trans hk99)⟩

set_option maxHeartbeats 2000000 in
set_option maxRecDepth 100000 in
theorem print_010 (n f : ByteArray) (op : Int) (v sl : Nat) (on : Bool) (w : World) (hs : Signs w) (HC : Hid (chk n.data.toList op v sl f.data.toList on = 0)) (hn : n.size ≤ 8) (ho : (op != 0) = false) (hsl : ((sl : Int) != 0) = true) (hsl2 : sl < 100) (hfe : f.toList.isEmpty = true) :
    Calls Tryz.prog 117 #[.agg #[.string n, .int .i64 op, .int .i64 ↑v, .int .i64 ↑sl, .string f, .bool on]] w fun e w' => e = .returned (.tuple #[.string ⟨((n.data.toList ++ [58] ++ Lib.decDigits sl)).toArray⟩, .int .i64 0]) ∧ Keep w w' := by
  have hbox := Boxed.new w #[.string n, .int .i64 op, .int .i64 ↑v, .int .i64 ↑sl, .string f, .bool on] 23
  have k0 := Keep.alloc w (.cells #[.string n, .int .i64 op, .int .i64 ↑v, .int .i64 ↑sl, .string f, .bool on] 23)
  have HB : Hid (Boxed w.heap.size #[.string n, .int .i64 op, .int .i64 ↑v, .int .i64 ↑sl, .string f, .bool on] (w.alloc (.cells #[.string n, .int .i64 op, .int .i64 ↑v, .int .i64 ↑sl, .string f, .bool on] 23))) := hbox
  clear hbox
  have hgl := hs.1
  clear hs
  have hl0 := size_list n
  have HL0 : Hid (n.data.toList.length = n.size) := hl0
  clear hl0
  go_enter Tryz.func117, Tryz.ntmps117
  go_wp2_with fail
  refine (check_any _ _ _ _ _ _ _).mono ?_
  rintro e w1 ⟨rfl, hk1⟩
  rw [HC.out]
  have k1 : Keep w w1 := k0.trans hk1
  have b1 := HB.out.keep hk1 (by simp)
  have hz1 : w.heap.size < w1.heap.size := b1.1
  have hx1 := b1.2
  have kb : Keep w (w1.alloc (.cells #[.pointer none, .slice none 0 0] 119)) := k1.alloc' _
  go_wp2_with fail
  refine (wstr w1.heap.size w1.heap.size [] n _ (Lib.fresh_isBuilder _ _ _) (by simp; omega) (by simp)).mono ?_
  rintro e w2 ⟨rfl, hB2, hk2⟩
  have k2 : Below w1.heap.size w1 w2 := ((Below.refl _ _).alloc (Nat.le_refl _) _).trans hk2
  rw [List.nil_append] at hB2
  have hx2 := (b1.keep k2 hz1).2
  have hd2 := decDigits_le hsl2
  go_wp2_with fail
  refine (wbyte w1.heap.size w1.heap.size (n.data.toList) 58 _ hB2 (by simp; omega) k2.size).mono ?_
  rintro e w3 ⟨rfl, hB3, hk3⟩
  have k3 : Below w1.heap.size w1 w3 := k2.trans hk3
  have hx3 := (b1.keep k3 hz1).2
  clear hx2
  go_wp2_with fail
  refine (Tryz.strconv_Itoa_small sl hsl2 _).mono ?_
  rintro e wi ⟨rfl, hwi⟩
  rw [hwi]
  clear hwi wi
  go_wp2_with fail
  refine (wstr w1.heap.size w1.heap.size (n.data.toList ++ [58]) ⟨(Lib.decDigits sl).toArray⟩ _ hB3 (by simp; omega) k3.size).mono ?_
  rintro e w4 ⟨rfl, hB4, hk4⟩
  have k4 : Below w1.heap.size w1 w4 := k3.trans hk4
  have hx4 := (b1.keep k4 hz1).2
  clear hx3
  go_wp2_with fail
  refine (Tryz.Builder_String_any w1.heap.size w1.heap.size (n.data.toList ++ [58] ++ Lib.decDigits sl) _ hB4 k4.size).mono ?_
  rintro e w99 ⟨rfl, hk99⟩
  go_wp2_with fail
  go_ret2
  exact ⟨ret_str (by simp), k1.trans (k4.trans hk99)⟩

set_option maxHeartbeats 2000000 in
set_option maxRecDepth 100000 in
theorem print_011 (n f : ByteArray) (op : Int) (v sl : Nat) (on : Bool) (w : World) (hs : Signs w) (HC : Hid (chk n.data.toList op v sl f.data.toList on = 0)) (hn : n.size ≤ 8) (hf : f.size ≤ 8) (ho : (op != 0) = false) (hsl : ((sl : Int) != 0) = true) (hsl2 : sl < 100) (hfe : f.toList.isEmpty = false) (m : UInt8) (HM : Hid (m = if on then 43 else 45)) :
    Calls Tryz.prog 117 #[.agg #[.string n, .int .i64 op, .int .i64 ↑v, .int .i64 ↑sl, .string f, .bool on]] w fun e w' => e = .returned (.tuple #[.string ⟨(((n.data.toList ++ [58] ++ Lib.decDigits sl) ++ [m] ++ f.data.toList)).toArray⟩, .int .i64 0]) ∧ Keep w w' := by
  have hbox := Boxed.new w #[.string n, .int .i64 op, .int .i64 ↑v, .int .i64 ↑sl, .string f, .bool on] 23
  have k0 := Keep.alloc w (.cells #[.string n, .int .i64 op, .int .i64 ↑v, .int .i64 ↑sl, .string f, .bool on] 23)
  have HB : Hid (Boxed w.heap.size #[.string n, .int .i64 op, .int .i64 ↑v, .int .i64 ↑sl, .string f, .bool on] (w.alloc (.cells #[.string n, .int .i64 op, .int .i64 ↑v, .int .i64 ↑sl, .string f, .bool on] 23))) := hbox
  clear hbox
  have hgl := hs.1
  clear hs
  have hl0 := size_list n
  have HL0 : Hid (n.data.toList.length = n.size) := hl0
  clear hl0
  go_enter Tryz.func117, Tryz.ntmps117
  go_wp2_with fail
  refine (check_any _ _ _ _ _ _ _).mono ?_
  rintro e w1 ⟨rfl, hk1⟩
  rw [HC.out]
  have k1 : Keep w w1 := k0.trans hk1
  have b1 := HB.out.keep hk1 (by simp)
  have hz1 : w.heap.size < w1.heap.size := b1.1
  have hx1 := b1.2
  have kb : Keep w (w1.alloc (.cells #[.pointer none, .slice none 0 0] 119)) := k1.alloc' _
  go_wp2_with fail
  refine (wstr w1.heap.size w1.heap.size [] n _ (Lib.fresh_isBuilder _ _ _) (by simp; omega) (by simp)).mono ?_
  rintro e w2 ⟨rfl, hB2, hk2⟩
  have k2 : Below w1.heap.size w1 w2 := ((Below.refl _ _).alloc (Nat.le_refl _) _).trans hk2
  rw [List.nil_append] at hB2
  have hx2 := (b1.keep k2 hz1).2
  have hd2 := decDigits_le hsl2
  go_wp2_with fail
  refine (wbyte w1.heap.size w1.heap.size (n.data.toList) 58 _ hB2 (by simp; omega) k2.size).mono ?_
  rintro e w3 ⟨rfl, hB3, hk3⟩
  have k3 : Below w1.heap.size w1 w3 := k2.trans hk3
  have hx3 := (b1.keep k3 hz1).2
  clear hx2
  go_wp2_with fail
  refine (Tryz.strconv_Itoa_small sl hsl2 _).mono ?_
  rintro e wi ⟨rfl, hwi⟩
  rw [hwi]
  clear hwi wi
  go_wp2_with fail
  refine (wstr w1.heap.size w1.heap.size (n.data.toList ++ [58]) ⟨(Lib.decDigits sl).toArray⟩ _ hB3 (by simp; omega) k3.size).mono ?_
  rintro e w4 ⟨rfl, hB4, hk4⟩
  have k4 : Below w1.heap.size w1 w4 := k3.trans hk4
  have hx4 := (b1.keep k4 hz1).2
  clear hx3
  go_wp2_with fail
  refine (mark_any on m HM.out _).mono ?_
  rintro e wi ⟨rfl, hwi⟩
  rw [hwi]
  clear hwi wi
  go_wp2_with fail
  refine (wbyte w1.heap.size w1.heap.size (n.data.toList ++ [58] ++ Lib.decDigits sl) m _ hB4 (by simp; omega) k4.size).mono ?_
  rintro e w5 ⟨rfl, hB5, hk5⟩
  have k5 : Below w1.heap.size w1 w5 := k4.trans hk5
  have hx5 := (b1.keep k5 hz1).2
  clear hx4
  go_wp2_with fail
  refine (wstr w1.heap.size w1.heap.size (n.data.toList ++ [58] ++ Lib.decDigits sl ++ [m]) f _ hB5 (by simp; omega) k5.size).mono ?_
  rintro e w6 ⟨rfl, hB6, hk6⟩
  have k6 : Below w1.heap.size w1 w6 := k5.trans hk6
  have hx6 := (b1.keep k6 hz1).2
  clear hx5
  go_wp2_with fail
  refine (Tryz.Builder_String_any w1.heap.size w1.heap.size (n.data.toList ++ [58] ++ Lib.decDigits sl ++ [m] ++ f.data.toList) _ hB6 k6.size).mono ?_
  rintro e w99 ⟨rfl, hk99⟩
  go_wp2_with fail
  go_ret2
  exact ⟨ret_str (by simp), k1.trans (k6.trans hk99)⟩

set_option maxHeartbeats 2000000 in
set_option maxRecDepth 100000 in
theorem print_100 (n f : ByteArray) (op : Int) (v sl : Nat) (on : Bool) (w : World) (hs : Signs w) (HC : Hid (chk n.data.toList op v sl f.data.toList on = 0)) (hn : n.size ≤ 8) (ho : (op != 0) = true) (ho1 : 1 ≤ op) (ho2 : op < 4) (hv : v < 100) (hsl : ((sl : Int) != 0) = false) (hfe : f.toList.isEmpty = true) :
    Calls Tryz.prog 117 #[.agg #[.string n, .int .i64 op, .int .i64 ↑v, .int .i64 ↑sl, .string f, .bool on]] w fun e w' => e = .returned (.tuple #[.string ⟨((n.data.toList ++ signL op ++ Lib.decDigits v)).toArray⟩, .int .i64 0]) ∧ Keep w w' := by
  have hbox := Boxed.new w #[.string n, .int .i64 op, .int .i64 ↑v, .int .i64 ↑sl, .string f, .bool on] 23
  have k0 := Keep.alloc w (.cells #[.string n, .int .i64 op, .int .i64 ↑v, .int .i64 ↑sl, .string f, .bool on] 23)
  have HB : Hid (Boxed w.heap.size #[.string n, .int .i64 op, .int .i64 ↑v, .int .i64 ↑sl, .string f, .bool on] (w.alloc (.cells #[.string n, .int .i64 op, .int .i64 ↑v, .int .i64 ↑sl, .string f, .bool on] 23))) := hbox
  clear hbox
  obtain ⟨sg, hsg, HS, hsgn⟩ := hs.at ho1 ho2
  have HSG : Hid (w.cell? ⟨0, op.toNat, none⟩ = some (.string sg)) := hsg
  clear hsg
  have hgl := hs.1
  clear hs
  have hl0 := size_list n
  have HL0 : Hid (n.data.toList.length = n.size) := hl0
  clear hl0
  go_enter Tryz.func117, Tryz.ntmps117
  go_wp2_with fail
  refine (check_any _ _ _ _ _ _ _).mono ?_
  rintro e w1 ⟨rfl, hk1⟩
  rw [HC.out]
  have k1 : Keep w w1 := k0.trans hk1
  have b1 := HB.out.keep hk1 (by simp)
  have hz1 : w.heap.size < w1.heap.size := b1.1
  have hx1 := b1.2
  have kb : Keep w (w1.alloc (.cells #[.pointer none, .slice none 0 0] 119)) := k1.alloc' _
  go_wp2_with fail
  refine (wstr w1.heap.size w1.heap.size [] n _ (Lib.fresh_isBuilder _ _ _) (by simp; omega) (by simp)).mono ?_
  rintro e w2 ⟨rfl, hB2, hk2⟩
  have k2 : Below w1.heap.size w1 w2 := ((Below.refl _ _).alloc (Nat.le_refl _) _).trans hk2
  rw [List.nil_append] at hB2
  have hx2 := (b1.keep k2 hz1).2
  have hsg2 : w2.cell? ⟨0, op.toNat, none⟩ = some (.string sg) := by rw [k2.cell (p := ⟨0, op.toNat, none⟩) (Nat.lt_trans hgl hz1), k1.cells.1 _ _ hgl]; exact HSG.out
  go_wp2_with fail
  refine (wstr w1.heap.size w1.heap.size (n.data.toList) sg _ hB2 (by simp; omega) k2.size).mono ?_
  rintro e w3 ⟨rfl, hB3, hk3⟩
  have k3 : Below w1.heap.size w1 w3 := k2.trans hk3
  have hx3 := (b1.keep k3 hz1).2
  clear hx2
  clear hsg2
  have hd1 := decDigits_le hv
  go_wp2_with fail
  refine (Tryz.strconv_Itoa_small v hv _).mono ?_
  rintro e wi ⟨rfl, hwi⟩
  rw [hwi]
  clear hwi wi
  go_wp2_with fail
  refine (wstr w1.heap.size w1.heap.size (n.data.toList ++ sg.data.toList) ⟨(Lib.decDigits v).toArray⟩ _ hB3 (by simp; omega) k3.size).mono ?_
  rintro e w4 ⟨rfl, hB4, hk4⟩
  have k4 : Below w1.heap.size w1 w4 := k3.trans hk4
  have hx4 := (b1.keep k4 hz1).2
  clear hx3
  go_wp2_with fail
  refine (Tryz.Builder_String_any w1.heap.size w1.heap.size (n.data.toList ++ sg.data.toList ++ Lib.decDigits v) _ hB4 k4.size).mono ?_
  rintro e w99 ⟨rfl, hk99⟩
  go_wp2_with fail
  go_ret2
  exact ⟨ret_str (by rw [← HS.out]; simp), k1.trans (k4.trans hk99)⟩

set_option maxHeartbeats 2000000 in
set_option maxRecDepth 100000 in
theorem print_101 (n f : ByteArray) (op : Int) (v sl : Nat) (on : Bool) (w : World) (hs : Signs w) (HC : Hid (chk n.data.toList op v sl f.data.toList on = 0)) (hn : n.size ≤ 8) (hf : f.size ≤ 8) (ho : (op != 0) = true) (ho1 : 1 ≤ op) (ho2 : op < 4) (hv : v < 100) (hsl : ((sl : Int) != 0) = false) (hfe : f.toList.isEmpty = false) (m : UInt8) (HM : Hid (m = if on then 43 else 45)) :
    Calls Tryz.prog 117 #[.agg #[.string n, .int .i64 op, .int .i64 ↑v, .int .i64 ↑sl, .string f, .bool on]] w fun e w' => e = .returned (.tuple #[.string ⟨(((n.data.toList ++ signL op ++ Lib.decDigits v) ++ [m] ++ f.data.toList)).toArray⟩, .int .i64 0]) ∧ Keep w w' := by
  have hbox := Boxed.new w #[.string n, .int .i64 op, .int .i64 ↑v, .int .i64 ↑sl, .string f, .bool on] 23
  have k0 := Keep.alloc w (.cells #[.string n, .int .i64 op, .int .i64 ↑v, .int .i64 ↑sl, .string f, .bool on] 23)
  have HB : Hid (Boxed w.heap.size #[.string n, .int .i64 op, .int .i64 ↑v, .int .i64 ↑sl, .string f, .bool on] (w.alloc (.cells #[.string n, .int .i64 op, .int .i64 ↑v, .int .i64 ↑sl, .string f, .bool on] 23))) := hbox
  clear hbox
  obtain ⟨sg, hsg, HS, hsgn⟩ := hs.at ho1 ho2
  have HSG : Hid (w.cell? ⟨0, op.toNat, none⟩ = some (.string sg)) := hsg
  clear hsg
  have hgl := hs.1
  clear hs
  have hl0 := size_list n
  have HL0 : Hid (n.data.toList.length = n.size) := hl0
  clear hl0
  go_enter Tryz.func117, Tryz.ntmps117
  go_wp2_with fail
  refine (check_any _ _ _ _ _ _ _).mono ?_
  rintro e w1 ⟨rfl, hk1⟩
  rw [HC.out]
  have k1 : Keep w w1 := k0.trans hk1
  have b1 := HB.out.keep hk1 (by simp)
  have hz1 : w.heap.size < w1.heap.size := b1.1
  have hx1 := b1.2
  have kb : Keep w (w1.alloc (.cells #[.pointer none, .slice none 0 0] 119)) := k1.alloc' _
  go_wp2_with fail
  refine (wstr w1.heap.size w1.heap.size [] n _ (Lib.fresh_isBuilder _ _ _) (by simp; omega) (by simp)).mono ?_
  rintro e w2 ⟨rfl, hB2, hk2⟩
  have k2 : Below w1.heap.size w1 w2 := ((Below.refl _ _).alloc (Nat.le_refl _) _).trans hk2
  rw [List.nil_append] at hB2
  have hx2 := (b1.keep k2 hz1).2
  have hsg2 : w2.cell? ⟨0, op.toNat, none⟩ = some (.string sg) := by rw [k2.cell (p := ⟨0, op.toNat, none⟩) (Nat.lt_trans hgl hz1), k1.cells.1 _ _ hgl]; exact HSG.out
  go_wp2_with fail
  refine (wstr w1.heap.size w1.heap.size (n.data.toList) sg _ hB2 (by simp; omega) k2.size).mono ?_
  rintro e w3 ⟨rfl, hB3, hk3⟩
  have k3 : Below w1.heap.size w1 w3 := k2.trans hk3
  have hx3 := (b1.keep k3 hz1).2
  clear hx2
  clear hsg2
  have hd1 := decDigits_le hv
  go_wp2_with fail
  refine (Tryz.strconv_Itoa_small v hv _).mono ?_
  rintro e wi ⟨rfl, hwi⟩
  rw [hwi]
  clear hwi wi
  go_wp2_with fail
  refine (wstr w1.heap.size w1.heap.size (n.data.toList ++ sg.data.toList) ⟨(Lib.decDigits v).toArray⟩ _ hB3 (by simp; omega) k3.size).mono ?_
  rintro e w4 ⟨rfl, hB4, hk4⟩
  have k4 : Below w1.heap.size w1 w4 := k3.trans hk4
  have hx4 := (b1.keep k4 hz1).2
  clear hx3
  go_wp2_with fail
  refine (mark_any on m HM.out _).mono ?_
  rintro e wi ⟨rfl, hwi⟩
  rw [hwi]
  clear hwi wi
  go_wp2_with fail
  refine (wbyte w1.heap.size w1.heap.size (n.data.toList ++ sg.data.toList ++ Lib.decDigits v) m _ hB4 (by simp; omega) k4.size).mono ?_
  rintro e w5 ⟨rfl, hB5, hk5⟩
  have k5 : Below w1.heap.size w1 w5 := k4.trans hk5
  have hx5 := (b1.keep k5 hz1).2
  clear hx4
  go_wp2_with fail
  refine (wstr w1.heap.size w1.heap.size (n.data.toList ++ sg.data.toList ++ Lib.decDigits v ++ [m]) f _ hB5 (by simp; omega) k5.size).mono ?_
  rintro e w6 ⟨rfl, hB6, hk6⟩
  have k6 : Below w1.heap.size w1 w6 := k5.trans hk6
  have hx6 := (b1.keep k6 hz1).2
  clear hx5
  go_wp2_with fail
  refine (Tryz.Builder_String_any w1.heap.size w1.heap.size (n.data.toList ++ sg.data.toList ++ Lib.decDigits v ++ [m] ++ f.data.toList) _ hB6 k6.size).mono ?_
  rintro e w99 ⟨rfl, hk99⟩
  go_wp2_with fail
  go_ret2
  exact ⟨ret_str (by rw [← HS.out]; simp), k1.trans (k6.trans hk99)⟩

set_option maxHeartbeats 2000000 in
set_option maxRecDepth 100000 in
theorem print_110 (n f : ByteArray) (op : Int) (v sl : Nat) (on : Bool) (w : World) (hs : Signs w) (HC : Hid (chk n.data.toList op v sl f.data.toList on = 0)) (hn : n.size ≤ 8) (ho : (op != 0) = true) (ho1 : 1 ≤ op) (ho2 : op < 4) (hv : v < 100) (hsl : ((sl : Int) != 0) = true) (hsl2 : sl < 100) (hfe : f.toList.isEmpty = true) :
    Calls Tryz.prog 117 #[.agg #[.string n, .int .i64 op, .int .i64 ↑v, .int .i64 ↑sl, .string f, .bool on]] w fun e w' => e = .returned (.tuple #[.string ⟨(((n.data.toList ++ signL op ++ Lib.decDigits v) ++ [58] ++ Lib.decDigits sl)).toArray⟩, .int .i64 0]) ∧ Keep w w' := by
  have hbox := Boxed.new w #[.string n, .int .i64 op, .int .i64 ↑v, .int .i64 ↑sl, .string f, .bool on] 23
  have k0 := Keep.alloc w (.cells #[.string n, .int .i64 op, .int .i64 ↑v, .int .i64 ↑sl, .string f, .bool on] 23)
  have HB : Hid (Boxed w.heap.size #[.string n, .int .i64 op, .int .i64 ↑v, .int .i64 ↑sl, .string f, .bool on] (w.alloc (.cells #[.string n, .int .i64 op, .int .i64 ↑v, .int .i64 ↑sl, .string f, .bool on] 23))) := hbox
  clear hbox
  obtain ⟨sg, hsg, HS, hsgn⟩ := hs.at ho1 ho2
  have HSG : Hid (w.cell? ⟨0, op.toNat, none⟩ = some (.string sg)) := hsg
  clear hsg
  have hgl := hs.1
  clear hs
  have hl0 := size_list n
  have HL0 : Hid (n.data.toList.length = n.size) := hl0
  clear hl0
  go_enter Tryz.func117, Tryz.ntmps117
  go_wp2_with fail
  refine (check_any _ _ _ _ _ _ _).mono ?_
  rintro e w1 ⟨rfl, hk1⟩
  rw [HC.out]
  have k1 : Keep w w1 := k0.trans hk1
  have b1 := HB.out.keep hk1 (by simp)
  have hz1 : w.heap.size < w1.heap.size := b1.1
  have hx1 := b1.2
  have kb : Keep w (w1.alloc (.cells #[.pointer none, .slice none 0 0] 119)) := k1.alloc' _
  go_wp2_with fail
  refine (wstr w1.heap.size w1.heap.size [] n _ (Lib.fresh_isBuilder _ _ _) (by simp; omega) (by simp)).mono ?_
  rintro e w2 ⟨rfl, hB2, hk2⟩
  have k2 : Below w1.heap.size w1 w2 := ((Below.refl _ _).alloc (Nat.le_refl _) _).trans hk2
  rw [List.nil_append] at hB2
  have hx2 := (b1.keep k2 hz1).2
  have hsg2 : w2.cell? ⟨0, op.toNat, none⟩ = some (.string sg) := by rw [k2.cell (p := ⟨0, op.toNat, none⟩) (Nat.lt_trans hgl hz1), k1.cells.1 _ _ hgl]; exact HSG.out
  go_wp2_with fail
  refine (wstr w1.heap.size w1.heap.size (n.data.toList) sg _ hB2 (by simp; omega) k2.size).mono ?_
  rintro e w3 ⟨rfl, hB3, hk3⟩
  have k3 : Below w1.heap.size w1 w3 := k2.trans hk3
  have hx3 := (b1.keep k3 hz1).2
  clear hx2
  clear hsg2
  have hd1 := decDigits_le hv
  go_wp2_with fail
  refine (Tryz.strconv_Itoa_small v hv _).mono ?_
  rintro e wi ⟨rfl, hwi⟩
  rw [hwi]
  clear hwi wi
  go_wp2_with fail
  refine (wstr w1.heap.size w1.heap.size (n.data.toList ++ sg.data.toList) ⟨(Lib.decDigits v).toArray⟩ _ hB3 (by simp; omega) k3.size).mono ?_
  rintro e w4 ⟨rfl, hB4, hk4⟩
  have k4 : Below w1.heap.size w1 w4 := k3.trans hk4
  have hx4 := (b1.keep k4 hz1).2
  clear hx3
  have hd2 := decDigits_le hsl2
  go_wp2_with fail
  refine (wbyte w1.heap.size w1.heap.size (n.data.toList ++ sg.data.toList ++ Lib.decDigits v) 58 _ hB4 (by simp; omega) k4.size).mono ?_
  rintro e w5 ⟨rfl, hB5, hk5⟩
  have k5 : Below w1.heap.size w1 w5 := k4.trans hk5
  have hx5 := (b1.keep k5 hz1).2
  clear hx4
  go_wp2_with fail
  refine (Tryz.strconv_Itoa_small sl hsl2 _).mono ?_
  rintro e wi ⟨rfl, hwi⟩
  rw [hwi]
  clear hwi wi
  go_wp2_with fail
  refine (wstr w1.heap.size w1.heap.size (n.data.toList ++ sg.data.toList ++ Lib.decDigits v ++ [58]) ⟨(Lib.decDigits sl).toArray⟩ _ hB5 (by simp; omega) k5.size).mono ?_
  rintro e w6 ⟨rfl, hB6, hk6⟩
  have k6 : Below w1.heap.size w1 w6 := k5.trans hk6
  have hx6 := (b1.keep k6 hz1).2
  clear hx5
  go_wp2_with fail
  refine (Tryz.Builder_String_any w1.heap.size w1.heap.size (n.data.toList ++ sg.data.toList ++ Lib.decDigits v ++ [58] ++ Lib.decDigits sl) _ hB6 k6.size).mono ?_
  rintro e w99 ⟨rfl, hk99⟩
  go_wp2_with fail
  go_ret2
  exact ⟨ret_str (by rw [← HS.out]; simp), k1.trans (k6.trans hk99)⟩

set_option maxHeartbeats 2000000 in
set_option maxRecDepth 100000 in
theorem print_111 (n f : ByteArray) (op : Int) (v sl : Nat) (on : Bool) (w : World) (hs : Signs w) (HC : Hid (chk n.data.toList op v sl f.data.toList on = 0)) (hn : n.size ≤ 8) (hf : f.size ≤ 8) (ho : (op != 0) = true) (ho1 : 1 ≤ op) (ho2 : op < 4) (hv : v < 100) (hsl : ((sl : Int) != 0) = true) (hsl2 : sl < 100) (hfe : f.toList.isEmpty = false) (m : UInt8) (HM : Hid (m = if on then 43 else 45)) :
    Calls Tryz.prog 117 #[.agg #[.string n, .int .i64 op, .int .i64 ↑v, .int .i64 ↑sl, .string f, .bool on]] w fun e w' => e = .returned (.tuple #[.string ⟨((((n.data.toList ++ signL op ++ Lib.decDigits v) ++ [58] ++ Lib.decDigits sl) ++ [m] ++ f.data.toList)).toArray⟩, .int .i64 0]) ∧ Keep w w' := by
  have hbox := Boxed.new w #[.string n, .int .i64 op, .int .i64 ↑v, .int .i64 ↑sl, .string f, .bool on] 23
  have k0 := Keep.alloc w (.cells #[.string n, .int .i64 op, .int .i64 ↑v, .int .i64 ↑sl, .string f, .bool on] 23)
  have HB : Hid (Boxed w.heap.size #[.string n, .int .i64 op, .int .i64 ↑v, .int .i64 ↑sl, .string f, .bool on] (w.alloc (.cells #[.string n, .int .i64 op, .int .i64 ↑v, .int .i64 ↑sl, .string f, .bool on] 23))) := hbox
  clear hbox
  obtain ⟨sg, hsg, HS, hsgn⟩ := hs.at ho1 ho2
  have HSG : Hid (w.cell? ⟨0, op.toNat, none⟩ = some (.string sg)) := hsg
  clear hsg
  have hgl := hs.1
  clear hs
  have hl0 := size_list n
  have HL0 : Hid (n.data.toList.length = n.size) := hl0
  clear hl0
  go_enter Tryz.func117, Tryz.ntmps117
  go_wp2_with fail
  refine (check_any _ _ _ _ _ _ _).mono ?_
  rintro e w1 ⟨rfl, hk1⟩
  rw [HC.out]
  have k1 : Keep w w1 := k0.trans hk1
  have b1 := HB.out.keep hk1 (by simp)
  have hz1 : w.heap.size < w1.heap.size := b1.1
  have hx1 := b1.2
  have kb : Keep w (w1.alloc (.cells #[.pointer none, .slice none 0 0] 119)) := k1.alloc' _
  go_wp2_with fail
  refine (wstr w1.heap.size w1.heap.size [] n _ (Lib.fresh_isBuilder _ _ _) (by simp; omega) (by simp)).mono ?_
  rintro e w2 ⟨rfl, hB2, hk2⟩
  have k2 : Below w1.heap.size w1 w2 := ((Below.refl _ _).alloc (Nat.le_refl _) _).trans hk2
  rw [List.nil_append] at hB2
  have hx2 := (b1.keep k2 hz1).2
  have hsg2 : w2.cell? ⟨0, op.toNat, none⟩ = some (.string sg) := by rw [k2.cell (p := ⟨0, op.toNat, none⟩) (Nat.lt_trans hgl hz1), k1.cells.1 _ _ hgl]; exact HSG.out
  go_wp2_with fail
  refine (wstr w1.heap.size w1.heap.size (n.data.toList) sg _ hB2 (by simp; omega) k2.size).mono ?_
  rintro e w3 ⟨rfl, hB3, hk3⟩
  have k3 : Below w1.heap.size w1 w3 := k2.trans hk3
  have hx3 := (b1.keep k3 hz1).2
  clear hx2
  clear hsg2
  have hd1 := decDigits_le hv
  go_wp2_with fail
  refine (Tryz.strconv_Itoa_small v hv _).mono ?_
  rintro e wi ⟨rfl, hwi⟩
  rw [hwi]
  clear hwi wi
  go_wp2_with fail
  refine (wstr w1.heap.size w1.heap.size (n.data.toList ++ sg.data.toList) ⟨(Lib.decDigits v).toArray⟩ _ hB3 (by simp; omega) k3.size).mono ?_
  rintro e w4 ⟨rfl, hB4, hk4⟩
  have k4 : Below w1.heap.size w1 w4 := k3.trans hk4
  have hx4 := (b1.keep k4 hz1).2
  clear hx3
  have hd2 := decDigits_le hsl2
  go_wp2_with fail
  refine (wbyte w1.heap.size w1.heap.size (n.data.toList ++ sg.data.toList ++ Lib.decDigits v) 58 _ hB4 (by simp; omega) k4.size).mono ?_
  rintro e w5 ⟨rfl, hB5, hk5⟩
  have k5 : Below w1.heap.size w1 w5 := k4.trans hk5
  have hx5 := (b1.keep k5 hz1).2
  clear hx4
  go_wp2_with fail
  refine (Tryz.strconv_Itoa_small sl hsl2 _).mono ?_
  rintro e wi ⟨rfl, hwi⟩
  rw [hwi]
  clear hwi wi
  go_wp2_with fail
  refine (wstr w1.heap.size w1.heap.size (n.data.toList ++ sg.data.toList ++ Lib.decDigits v ++ [58]) ⟨(Lib.decDigits sl).toArray⟩ _ hB5 (by simp; omega) k5.size).mono ?_
  rintro e w6 ⟨rfl, hB6, hk6⟩
  have k6 : Below w1.heap.size w1 w6 := k5.trans hk6
  have hx6 := (b1.keep k6 hz1).2
  clear hx5
  go_wp2_with fail
  refine (mark_any on m HM.out _).mono ?_
  rintro e wi ⟨rfl, hwi⟩
  rw [hwi]
  clear hwi wi
  go_wp2_with fail
  refine (wbyte w1.heap.size w1.heap.size (n.data.toList ++ sg.data.toList ++ Lib.decDigits v ++ [58] ++ Lib.decDigits sl) m _ hB6 (by simp; omega) k6.size).mono ?_
  rintro e w7 ⟨rfl, hB7, hk7⟩
  have k7 : Below w1.heap.size w1 w7 := k6.trans hk7
  have hx7 := (b1.keep k7 hz1).2
  clear hx6
  go_wp2_with fail
  refine (wstr w1.heap.size w1.heap.size (n.data.toList ++ sg.data.toList ++ Lib.decDigits v ++ [58] ++ Lib.decDigits sl ++ [m]) f _ hB7 (by simp; omega) k7.size).mono ?_
  rintro e w8 ⟨rfl, hB8, hk8⟩
  have k8 : Below w1.heap.size w1 w8 := k7.trans hk8
  have hx8 := (b1.keep k8 hz1).2
  clear hx7
  go_wp2_with fail
  refine (Tryz.Builder_String_any w1.heap.size w1.heap.size (n.data.toList ++ sg.data.toList ++ Lib.decDigits v ++ [58] ++ Lib.decDigits sl ++ [m] ++ f.data.toList) _ hB8 k8.size).mono ?_
  rintro e w99 ⟨rfl, hk99⟩
  go_wp2_with fail
  go_ret2
  exact ⟨ret_str (by rw [← HS.out]; simp), k1.trans (k8.trans hk99)⟩

theorem verB_pos {op v : Int} (h0 : op ≠ 0) (h : verB op v = true) : 1 ≤ v ∧ v ≤ 99 := by
  unfold verB at h; rw [if_neg h0] at h; simpa using h
theorem verB_zero {v : Int} (h : verB 0 v = true) : v = 0 := by
  unfold verB at h; simpa using h
theorem chk_zero {n : List UInt8} {op v sl : Int} {f : List UInt8} {on : Bool} (h : chk n op v sl f on = 0) :
    nameB n = true ∧ (f = [] ∨ nameB f = true) ∧ 0 ≤ op ∧ op < 4 ∧ 0 ≤ sl ∧ sl ≤ 9 ∧ verB op v = true ∧ (on = true → f ≠ []) := by
  unfold chk at h
  split at h
  · cases h
  · rename_i h1
    split at h
    · cases h
    · rename_i h2
      split at h
      · cases h
      · rename_i h3
        refine ⟨?_, ?_, by omega, by omega, by omega, by omega, ?_, fun e e' => h3 ⟨e, e'⟩⟩
        · cases e : nameB n
          · exact absurd (Or.inl e) h1
          · rfl
        · by_cases e : f = []
          · exact Or.inl e
          · right
            cases e' : nameB f
            · exact absurd (Or.inr ⟨e, e'⟩) h1
            · rfl
        · cases e : verB op v
          · exact absurd (Or.inr (Or.inr (Or.inr (Or.inr e)))) h2
          · rfl

theorem print_ok (n f : ByteArray) (op v sl : Int) (on : Bool) (w : World) (hs : Signs w) (hc : chk n.data.toList op v sl f.data.toList on = 0) :
    Calls Tryz.prog 117 #[.agg #[.string n, .int .i64 op, .int .i64 v, .int .i64 sl, .string f, .bool on]] w fun e w' => e = .returned (.tuple #[.string ⟨(textOf n.data.toList op v sl f.data.toList on).toArray⟩, .int .i64 0]) ∧ Keep w w' := by
  obtain ⟨h1, h2, h3, h4, h5, h6, h7, h8⟩ := chk_zero hc
  have hv0 : 0 ≤ v := by
    by_cases e : op = 0
    · subst e; rw [verB_zero h7]; decide
    · have := verB_pos e h7; omega
  have hvm : v ≤ 99 := by
    by_cases e : op = 0
    · subst e; rw [verB_zero h7]; decide
    · exact (verB_pos e h7).2
  obtain ⟨v, rfl⟩ := Int.eq_ofNat_of_zero_le hv0
  obtain ⟨sl, rfl⟩ := Int.eq_ofNat_of_zero_le h5
  have hn8 : n.size ≤ 8 := by have := nameB_le h1; simpa using this
  have hf8 : f.size ≤ 8 := by
    rcases h2 with h2 | h2
    · have := size_list f; rw [h2] at this; simp at this; omega
    · have := nameB_le h2; simpa using this
  have c1 : op ≠ 0 → (op != 0) = true := fun e => by simp [e]
  have c2 : (sl : Int) ≠ 0 → ((sl : Int) != 0) = true := fun e => by simpa using e
  by_cases eo : op = 0
  · subst eo
    by_cases es : (sl : Int) = 0
    · by_cases ef : f.data.toList = []
      · have T : textOf n.data.toList 0 v sl f.data.toList on = n.data.toList := by unfold textOf; rw [itoa_nat, itoa_nat, if_pos rfl, if_pos es, if_pos ef]; simp
        rw [T]; exact print_000 n f 0 v sl on w hs hc hn8 rfl (by simp [es]) (empty_true ef)
      · have T : textOf n.data.toList 0 v sl f.data.toList on = (n.data.toList ++ [(if on then 43 else 45 : UInt8)] ++ f.data.toList) := by unfold textOf; rw [itoa_nat, itoa_nat, if_pos rfl, if_pos es, if_neg ef]; simp
        rw [T]; exact print_001 n f 0 v sl on w hs hc hn8 hf8 rfl (by simp [es]) (empty_false ef) _ rfl
    · by_cases ef : f.data.toList = []
      · have T : textOf n.data.toList 0 v sl f.data.toList on = (n.data.toList ++ [58] ++ Lib.decDigits sl) := by unfold textOf; rw [itoa_nat, itoa_nat, if_pos rfl, if_neg es, if_pos ef]; simp
        rw [T]; exact print_010 n f 0 v sl on w hs hc hn8 rfl (c2 es) (by omega) (empty_true ef)
      · have T : textOf n.data.toList 0 v sl f.data.toList on = ((n.data.toList ++ [58] ++ Lib.decDigits sl) ++ [(if on then 43 else 45 : UInt8)] ++ f.data.toList) := by unfold textOf; rw [itoa_nat, itoa_nat, if_pos rfl, if_neg es, if_neg ef]; simp
        rw [T]; exact print_011 n f 0 v sl on w hs hc hn8 hf8 rfl (c2 es) (by omega) (empty_false ef) _ rfl
  · by_cases es : (sl : Int) = 0
    · by_cases ef : f.data.toList = []
      · have T : textOf n.data.toList op v sl f.data.toList on = (n.data.toList ++ signL op ++ Lib.decDigits v) := by unfold textOf; rw [itoa_nat, itoa_nat, if_neg eo, if_pos es, if_pos ef]; simp
        rw [T]; exact print_100 n f op v sl on w hs hc hn8 (c1 eo) (by omega) h4 (by omega) (by simp [es]) (empty_true ef)
      · have T : textOf n.data.toList op v sl f.data.toList on = ((n.data.toList ++ signL op ++ Lib.decDigits v) ++ [(if on then 43 else 45 : UInt8)] ++ f.data.toList) := by unfold textOf; rw [itoa_nat, itoa_nat, if_neg eo, if_pos es, if_neg ef]; simp
        rw [T]; exact print_101 n f op v sl on w hs hc hn8 hf8 (c1 eo) (by omega) h4 (by omega) (by simp [es]) (empty_false ef) _ rfl
    · by_cases ef : f.data.toList = []
      · have T : textOf n.data.toList op v sl f.data.toList on = ((n.data.toList ++ signL op ++ Lib.decDigits v) ++ [58] ++ Lib.decDigits sl) := by unfold textOf; rw [itoa_nat, itoa_nat, if_neg eo, if_neg es, if_pos ef]; simp
        rw [T]; exact print_110 n f op v sl on w hs hc hn8 (c1 eo) (by omega) h4 (by omega) (c2 es) (by omega) (empty_true ef)
      · have T : textOf n.data.toList op v sl f.data.toList on = (((n.data.toList ++ signL op ++ Lib.decDigits v) ++ [58] ++ Lib.decDigits sl) ++ [(if on then 43 else 45 : UInt8)] ++ f.data.toList) := by unfold textOf; rw [itoa_nat, itoa_nat, if_neg eo, if_neg es, if_neg ef]; simp
        rw [T]; exact print_111 n f op v sl on w hs hc hn8 hf8 (c1 eo) (by omega) h4 (by omega) (c2 es) (by omega) (empty_false ef) _ rfl

theorem print_bad (n f : ByteArray) (op v sl : Int) (on : Bool) (w : World) (hc : chk n.data.toList op v sl f.data.toList on ≠ 0) :
    Calls Tryz.prog 117 #[.agg #[.string n, .int .i64 op, .int .i64 v, .int .i64 sl, .string f, .bool on]] w fun e w' => e = .returned (.tuple #[.string ⟨#[]⟩, .int .i64 (chk n.data.toList op v sl f.data.toList on)]) ∧ Keep w w' := by
  have k0 := Keep.alloc w (.cells #[.string n, .int .i64 op, .int .i64 v, .int .i64 sl, .string f, .bool on] 23)
  generalize hcc : chk n.data.toList op v sl f.data.toList on = c at hc
  have HC : Hid (chk n.data.toList op v sl f.data.toList on = c) := hcc
  clear hcc
  have hc' : (c != 0) = true := by simp [hc]
  clear hc
  go_enter Tryz.func117, Tryz.ntmps117
  go_wp2_with fail
  refine (check_any _ _ _ _ _ _ _).mono ?_
  rintro e w1 ⟨rfl, hk1⟩
  rw [HC.out]
  go_wp2_with fail
  go_ret2
  exact ⟨rfl, k0.trans hk1⟩
end Go.Proofs.YtkckkjpkidcbnaaGreatDoor
