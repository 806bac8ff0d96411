/- The plain functions that package atom's calls are held against: names, errors, fits, texts. -/
import Derived.Lib.ItoaNum
import Derived.Lib.AtoiAll
import Derived.Lib.IndexAny
namespace Go.Proofs.YtnagpmilagdjeaaGreatDoor

def letB (c : UInt8) : Bool := decide (97 ≤ c.toNat) && decide (c.toNat ≤ 122)
def digB (c : UInt8) : Bool := decide (48 ≤ c.toNat) && decide (c.toNat ≤ 57)
def okB (c : UInt8) : Bool := letB c || digB c
def headB : List UInt8 → Bool
  | [] => false
  | c :: _ => letB c
def nameB (l : List UInt8) : Bool := decide (l.length ≤ 8) && headB l && l.all okB
def verB (op v : Int) : Bool := if op = 0 then decide (v = 0) else decide (1 ≤ v) && decide (v ≤ 99)
def chk (n : List UInt8) (op v sl : Int) (f : List UInt8) (on : Bool) : Int :=
  if nameB n = false ∨ (f ≠ [] ∧ nameB f = false) then 1
  else if op < 0 ∨ 4 ≤ op ∨ sl < 0 ∨ 9 < sl ∨ verB op v = false then 3
  else if on = true ∧ f = [] then 4
  else 0
def fitB (op v sl ver slot : Int) : Bool :=
  if sl ≠ 0 ∧ sl ≠ slot then false
  else if op = 1 then decide (ver = v) else if op = 2 then decide (v ≤ ver) else if op = 3 then decide (ver < v) else true
def signL (op : Int) : List UInt8 := if op = 1 then [61] else if op = 2 then [62, 61] else if op = 3 then [60] else []
def textOf (n : List UInt8) (op v sl : Int) (f : List UInt8) (on : Bool) : List UInt8 :=
  n ++ (if op = 0 then [] else signL op ++ Go.Lib.itoa v) ++ (if sl = 0 then [] else 58 :: Go.Lib.itoa sl) ++ (if f = [] then [] else (if on then 43 else 45) :: f)

def numB (l : List UInt8) : Bool := match Go.Lib.atoiAll l with
  | .ok v => decide (Go.Lib.itoa v = l)
  | _ => false
def numV (l : List UInt8) : Int := match Go.Lib.atoiAll l with
  | .ok v => v
  | _ => 0
def ahead (l m : List UInt8) : List UInt8 := l.takeWhile fun c => !m.contains c
def tailOf (l m : List UInt8) : List UInt8 := l.dropWhile fun c => !m.contains c
def flagOk (t : List UInt8) : Bool := decide (t = []) || decide (t.drop 1 ≠ [])
def slotOk (t : List UInt8) : Bool := decide (t = []) || (numB (t.drop 1) && decide (numV (t.drop 1) ≠ 0))
def verOp (t : List UInt8) : Int := if [61].isPrefixOf t then 1 else if [62, 61].isPrefixOf t then 2 else if [60].isPrefixOf t then 3 else 0
def verDig (t : List UInt8) : List UInt8 := if verOp t = 2 then t.drop 2 else t.drop 1
def verOk (t : List UInt8) : Bool := decide (t = []) || (decide (verOp t ≠ 0) && numB (verDig t))
def slotV (t : List UInt8) : Int := if t = [] then 0 else numV (t.drop 1)
def verV (t : List UInt8) : Int := if t = [] then 0 else numV (verDig t)
def opV (t : List UInt8) : Int := if t = [] then 0 else verOp t
def onV (t : List UInt8) : Bool := decide (t.head? = some 43)
theorem letB_eq (c : UInt8) : letB c = (decide (97 ≤ (c.toNat : Int)) && decide ((c.toNat : Int) ≤ 122)) := by
  unfold letB; congr 1 <;> exact decide_eq_decide.2 (by omega)
theorem digB_eq (c : UInt8) : digB c = (decide (48 ≤ (c.toNat : Int)) && decide ((c.toNat : Int) ≤ 57)) := by
  unfold digB; congr 1 <;> exact decide_eq_decide.2 (by omega)
theorem okB_of_let {c : UInt8} (h : letB c = true) : okB c = true := by simp [okB, h]
theorem take_snoc (s : ByteArray) (k : Nat) (h : k < s.size) : s.data.toList.take (k + 1) = s.data.toList.take k ++ [s[k]] := by
  rw [List.take_succ_eq_append_getElem (by simpa using h)]; rfl
theorem all_snoc (s : ByteArray) (k : Nat) (h : k < s.size) (ha : (s.data.toList.take k).all okB = true) (hk : okB s[k] = true) : (s.data.toList.take (k + 1)).all okB = true := by
  rw [take_snoc s k h, List.all_append, ha]; simp [hk]
theorem nameB_bad (s : ByteArray) (k : Nat) (h : k < s.size) (hk : okB s[k] = false) : nameB s.data.toList = false := by
  have : s.data.toList.all okB = false := by
    rw [List.all_eq_false]
    exact ⟨s[k], by show s.data[k] ∈ s.data.toList; simp, by simp [hk]⟩
  simp [nameB, this]
theorem nameB_head (s : ByteArray) (h : 0 < s.size) (hk : letB s[0] = false) : nameB s.data.toList = false := by
  have e : s.data.toList = s[0] :: s.data.toList.drop 1 := by
    have := take_snoc s 0 h
    simp at this
    rw [show s.data.toList = s.data.toList.take 1 ++ s.data.toList.drop 1 from (List.take_append_drop 1 _).symm]
    have h1 : List.take 1 s.data.toList = [s[0]] := by simpa using this
    rw [h1]; simp
  unfold nameB
  rw [e]
  simp [headB, hk]
theorem nameB_good (s : ByteArray) (h : 0 < s.size) (h8 : s.size ≤ 8) (hk : letB s[0] = true) (ha : (s.data.toList.take s.size).all okB = true) : nameB s.data.toList = true := by
  have hl : s.data.toList.length = s.size := by simp
  have e : s.data.toList = s[0] :: s.data.toList.drop 1 := by
    have := take_snoc s 0 h
    simp at this
    rw [show s.data.toList = s.data.toList.take 1 ++ s.data.toList.drop 1 from (List.take_append_drop 1 _).symm]
    have h1 : List.take 1 s.data.toList = [s[0]] := by simpa using this
    rw [h1]; simp
  have ha' : s.data.toList.all okB = true := by rwa [List.take_of_length_le (by omega)] at ha
  have hh : headB s.data.toList = true := by rw [e]; exact hk
  simp [nameB, hh, ha', hl, h8]
theorem nameB_len (s : ByteArray) (h : s.size < 1 ∨ 8 < s.size) : nameB s.data.toList = false := by
  have hl : s.data.toList.length = s.size := by simp
  rcases h with h | h
  · have : s.data.toList = [] := List.length_eq_zero_iff.1 (by omega)
    simp [nameB, this, headB]
  · unfold nameB
    rw [hl, decide_eq_false (by omega)]
    rfl
theorem nameB_pos {l : List UInt8} (h : nameB l = true) : l ≠ [] := by
  rintro rfl; simp [nameB, headB] at h
theorem nameB_le {l : List UInt8} (h : nameB l = true) : l.length ≤ 8 := by
  simp [nameB] at h; omega
end Go.Proofs.YtnagpmilagdjeaaGreatDoor
