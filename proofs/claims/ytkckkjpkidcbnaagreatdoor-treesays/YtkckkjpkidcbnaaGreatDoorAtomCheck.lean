/- The plain functions that package atom's calls are held against: names, errors, fits, texts. -/
import Derived.Lib.ItoaNum
import Derived.Lib.AtoiAll
import Derived.Lib.IndexAny
import Derived.Test.YtkckkjpkidcbnaaGreatDoorRows
import Derived.WalkKit
import Derived.ProofKit
import Derived.BigQuiet
import Derived.WalkLawsBesides
namespace Go.Proofs.YtkckkjpkidcbnaaGreatDoor

def letB (c : UInt8) : Bool := decide (97 ≤ c.toNat) && decide (c.toNat ≤ 122)
def digB (c : UInt8) : Bool := decide (48 ≤ c.toNat) && decide (c.toNat ≤ 57)
def okB (c : UInt8) : Bool := letB c || digB c
def headB : List UInt8 → Bool
  | [] => false
  | c :: _ => letB c
def nameB (l : List UInt8) : Bool := decide (l.length ≤ 8) && headB l && l.all okB
def verB (op v : Int) : Bool := if op = 0 then decide (v = 0) else decide (1 ≤ v) && decide (v ≤ 99)
def chk (n : List UInt8) (op v sl : Int) (f : List UInt8) (on : Bool) : Int :=
  if nameB n = false ∨ (f ≠ [] ∧ nameB f = false) then 1
  else if op < 0 ∨ 4 ≤ op ∨ sl < 0 ∨ 9 < sl ∨ verB op v = false then 3
  else if on = true ∧ f = [] then 4
  else 0
def fitB (op v sl ver slot : Int) : Bool :=
  if sl ≠ 0 ∧ sl ≠ slot then false
  else if op = 1 then decide (ver = v) else if op = 2 then decide (v ≤ ver) else if op = 3 then decide (ver < v) else true
def signL (op : Int) : List UInt8 := if op = 1 then [61] else if op = 2 then [62, 61] else if op = 3 then [60] else []
def textOf (n : List UInt8) (op v sl : Int) (f : List UInt8) (on : Bool) : List UInt8 :=
  n ++ (if op = 0 then [] else signL op ++ Go.Lib.itoa v) ++ (if sl = 0 then [] else 58 :: Go.Lib.itoa sl) ++ (if f = [] then [] else (if on then 43 else 45) :: f)

def numB (l : List UInt8) : Bool := match Go.Lib.atoiAll l with
  | .ok v => decide (Go.Lib.itoa v = l)
  | _ => false
def numV (l : List UInt8) : Int := match Go.Lib.atoiAll l with
  | .ok v => v
  | _ => 0
def ahead (l m : List UInt8) : List UInt8 := l.takeWhile fun c => !m.contains c
def tailOf (l m : List UInt8) : List UInt8 := l.dropWhile fun c => !m.contains c
def flagOk (t : List UInt8) : Bool := decide (t = []) || decide (t.drop 1 ≠ [])
def slotOk (t : List UInt8) : Bool := decide (t = []) || (numB (t.drop 1) && decide (numV (t.drop 1) ≠ 0))
def verOp (t : List UInt8) : Int := if [61].isPrefixOf t then 1 else if [62, 61].isPrefixOf t then 2 else if [60].isPrefixOf t then 3 else 0
def verDig (t : List UInt8) : List UInt8 := if verOp t = 2 then t.drop 2 else t.drop 1
def verOk (t : List UInt8) : Bool := decide (t = []) || (decide (verOp t ≠ 0) && numB (verDig t))
def slotV (t : List UInt8) : Int := if t = [] then 0 else numV (t.drop 1)
def verV (t : List UInt8) : Int := if t = [] then 0 else numV (verDig t)
def opV (t : List UInt8) : Int := if t = [] then 0 else verOp t
def onV (t : List UInt8) : Bool := decide (t.head? = some 43)
theorem letB_eq (c : UInt8) : letB c = (decide (97 ≤ (c.toNat : Int)) && decide ((c.toNat : Int) ≤ 122)) := by
  unfold letB; congr 1 <;> exact decide_eq_decide.2 (by omega)
theorem digB_eq (c : UInt8) : digB c = (decide (48 ≤ (c.toNat : Int)) && decide ((c.toNat : Int) ≤ 57)) := by
  unfold digB; congr 1 <;> exact decide_eq_decide.2 (by omega)
theorem okB_of_let {c : UInt8} (h : letB c = true) : okB c = true := by simp [okB, h]
theorem take_snoc (s : ByteArray) (k : Nat) (h : k < s.size) : s.data.toList.take (k + 1) = s.data.toList.take k ++ [s[k]] := by
  rw [List.take_succ_eq_append_getElem (by simpa using h)]; rfl
theorem all_snoc (s : ByteArray) (k : Nat) (h : k < s.size) (ha : (s.data.toList.take k).all okB = true) (hk : okB s[k] = true) : (s.data.toList.take (k + 1)).all okB = true := by
  rw [take_snoc s k h, List.all_append, ha]; simp [hk]
theorem nameB_bad (s : ByteArray) (k : Nat) (h : k < s.size) (hk : okB s[k] = false) : nameB s.data.toList = false := by
  have : s.data.toList.all okB = false := by
    rw [List.all_eq_false]
    exact ⟨s[k], by show s.data[k] ∈ s.data.toList; simp, by simp [hk]⟩
  simp [nameB, this]
theorem nameB_head (s : ByteArray) (h : 0 < s.size) (hk : letB s[0] = false) : nameB s.data.toList = false := by
  have e : s.data.toList = s[0] :: s.data.toList.drop 1 := by
    have := take_snoc s 0 h
    simp at this
    rw [show s.data.toList = s.data.toList.take 1 ++ s.data.toList.drop 1 from (List.take_append_drop 1 _).symm]
    have h1 : List.take 1 s.data.toList = [s[0]] := by simpa using this
    rw [h1]; simp
  unfold nameB
  rw [e]
  simp [headB, hk]
theorem nameB_good (s : ByteArray) (h : 0 < s.size) (h8 : s.size ≤ 8) (hk : letB s[0] = true) (ha : (s.data.toList.take s.size).all okB = true) : nameB s.data.toList = true := by
  have hl : s.data.toList.length = s.size := by simp
  have e : s.data.toList = s[0] :: s.data.toList.drop 1 := by
    have := take_snoc s 0 h
    simp at this
    rw [show s.data.toList = s.data.toList.take 1 ++ s.data.toList.drop 1 from (List.take_append_drop 1 _).symm]
    have h1 : List.take 1 s.data.toList = [s[0]] := by simpa using this
    rw [h1]; simp
  have ha' : s.data.toList.all okB = true := by rwa [List.take_of_length_le (by omega)] at ha
  have hh : headB s.data.toList = true := by rw [e]; exact hk
  simp [nameB, hh, ha', hl, h8]
theorem nameB_len (s : ByteArray) (h : s.size < 1 ∨ 8 < s.size) : nameB s.data.toList = false := by
  have hl : s.data.toList.length = s.size := by simp
  rcases h with h | h
  · have : s.data.toList = [] := List.length_eq_zero_iff.1 (by omega)
    simp [nameB, this, headB]
  · unfold nameB
    rw [hl, decide_eq_false (by omega)]
    rfl
theorem nameB_pos {l : List UInt8} (h : nameB l = true) : l ≠ [] := by
  rintro rfl; simp [nameB, headB] at h
theorem nameB_le {l : List UInt8} (h : nameB l = true) : l.length ≤ 8 := by
  simp [nameB] at h; omega
end Go.Proofs.YtkckkjpkidcbnaaGreatDoor
/- atom.letter, atom.digit and atom.Name answer as the plain functions letB, digB and nameB say; the world is as it was. -/
namespace Go.Proofs.YtkckkjpkidcbnaaGreatDoor
open Go.RowKit

theorem ret_bool {a b : Bool} (h : a = b) : Ending.returned (.bool a) = .returned (.bool b) := by rw [h]
theorem ret_int {k : IntKind} {a b : Int} (h : a = b) : Ending.returned (.int k a) = .returned (.int k b) := by rw [h]

theorem letter_any (c : UInt8) (w : World) :
    Calls Tryz.prog 193 #[.int .u8 c.toNat] w fun e w' => e = .returned (.bool (letB c)) ∧ w' = w := by
  rw [letB_eq]
  by_cases h : 97 ≤ (c.toNat : Int)
  · go_enter Tryz.func193, Tryz.ntmps193
    go_wp2
    go_ret
    exact ⟨by simp [h], rfl⟩
  · go_enter Tryz.func193, Tryz.ntmps193
    go_wp2
    go_ret
    exact ⟨by rw [decide_eq_false (by omega)]; rfl, rfl⟩

theorem digit_any (c : UInt8) (w : World) :
    Calls Tryz.prog 194 #[.int .u8 c.toNat] w fun e w' => e = .returned (.bool (digB c)) ∧ w' = w := by
  rw [digB_eq]
  by_cases h : 48 ≤ (c.toNat : Int)
  · go_enter Tryz.func194, Tryz.ntmps194
    go_wp2
    go_ret
    exact ⟨by simp [h], rfl⟩
  · go_enter Tryz.func194, Tryz.ntmps194
    go_wp2
    go_ret
    exact ⟨by rw [decide_eq_false (by omega)]; rfl, rfl⟩

set_option maxHeartbeats 1000000 in
theorem name_any (s : ByteArray) (w : World) :
    Calls Tryz.prog 131 #[.string s] w fun e w' => e = .returned (.bool (nameB s.data.toList)) ∧ w' = w := by
  by_cases h1 : s.size < 1
  · have hn := nameB_len s (Or.inl h1)
    have H : Hid (nameB s.data.toList = false) := hn
    clear hn
    have h1' : (s.size : Int) < 1 := by omega
    go_enter Tryz.func131, Tryz.ntmps131
    go_wp2
    go_ret
    exact ⟨ret_bool H.out.symm, rfl⟩
  · by_cases h8 : 8 < s.size
    · have H : Hid (nameB s.data.toList = false) := nameB_len s (Or.inr h8)
      have h1' : ¬ (s.size : Int) < 1 := by omega
      have h8' : (8 : Int) < s.size := by omega
      go_enter Tryz.func131, Tryz.ntmps131
      go_wp2
      go_ret
      exact ⟨ret_bool H.out.symm, rfl⟩
    · have h1' : ¬ (s.size : Int) < 1 := by omega
      have h8' : ¬ (8 : Int) < s.size := by omega
      have hp : 0 < s.size := by omega
      cases hl : letB s[0]
      · have H : Hid (nameB s.data.toList = false) := nameB_head s hp hl
        have HL : Hid (letB s[0] = false) := hl
        clear hl
        go_enter Tryz.func131, Tryz.ntmps131
        go_wp2_with (go_at_call 193; refine (letter_any _ _).mono ?_; rintro e w' ⟨rfl, rfl⟩; rw [HL.out])
        go_ret
        exact ⟨ret_bool H.out.symm, rfl⟩
      · have HL : Hid (letB s[0] = true) := hl
        clear hl
        go_enter Tryz.func131, Tryz.ntmps131
        go_wp2_with (go_at_call 193; refine (letter_any _ _).mono ?_; rintro e w' ⟨rfl, rfl⟩; rw [HL.out])
        go_loop [20] (fun i => ∃ k : Nat, k ≤ s.size ∧ i = .int .i64 k ∧ (s.data.toList.take k).all okB = true) (fun i => s.size - (intOf i).toNat)
        case atStart => exact ⟨0, Nat.zero_le _, rfl, rfl⟩
        case round =>
          obtain ⟨k, hk, rfl, ha⟩ := hrel
          have HA : Hid ((s.data.toList.take k).all okB = true) := ha
          clear ha
          by_cases hlt : k < s.size
          · cases hlk : letB s[k]
            · have HK : Hid (letB s[k] = false) := hlk
              clear hlk
              cases hdk : digB s[k]
              · have HD : Hid (digB s[k] = false) := hdk
                clear hdk
                have HB : Hid (okB s[k] = false) := by show okB s[k] = false; rw [okB, HK.out, HD.out]; rfl
                go_wp2_with (first | (go_at_call 193; refine (letter_any _ _).mono ?_; rintro e w' ⟨rfl, rfl⟩; rw [HK.out]) | (go_at_call 194; refine (digit_any _ _).mono ?_; rintro e w' ⟨rfl, rfl⟩; rw [HD.out]))
                go_ret
                exact ⟨ret_bool (nameB_bad s k hlt HB.out).symm, rfl⟩
              · have HD : Hid (digB s[k] = true) := hdk
                clear hdk
                have HB : Hid (okB s[k] = true) := by show okB s[k] = true; rw [okB, HK.out, HD.out]; rfl
                go_wp2_with (first | (go_at_call 193; refine (letter_any _ _).mono ?_; rintro e w' ⟨rfl, rfl⟩; rw [HK.out]) | (go_at_call 194; refine (digit_any _ _).mono ?_; rintro e w' ⟨rfl, rfl⟩; rw [HD.out]))
                go_round
                case rel => exact ⟨k + 1, by omega, by go_num, all_snoc s k hlt HA.out HB.out⟩
                case measure => simp [intOf]; omega
            · have HK : Hid (letB s[k] = true) := hlk
              clear hlk
              go_wp2_with (go_at_call 193; refine (letter_any _ _).mono ?_; rintro e w' ⟨rfl, rfl⟩; rw [HK.out])
              go_round
              case rel => exact ⟨k + 1, by omega, by go_num, all_snoc s k hlt HA.out (okB_of_let HK.out)⟩
              case measure => simp [intOf]; omega
          · go_wp2
            go_ret
            have hks : k = s.size := by omega
            subst hks
            exact ⟨ret_bool (nameB_good s hp (by omega) HL.out HA.out).symm, rfl⟩
end Go.Proofs.YtkckkjpkidcbnaaGreatDoor
/- atom.versionMayBe, atom.Check and atom.Fits answer as the plain functions verB, chk and fitB say, of any atom; nothing that was there is changed. -/
namespace Go.Proofs.YtkckkjpkidcbnaaGreatDoor
open Go.RowKit

def Keep (w w' : World) : Prop := Below w.heap.size w w'
theorem Keep.refl (w : World) : Keep w w := Below.refl _ _
theorem Keep.trans {a b c : World} (h : Keep a b) (k : Keep b c) : Keep a c := Below.trans h (Below.mono k h.size)
theorem Keep.alloc (w : World) (o : Obj) : Keep w (w.alloc o) := (Below.refl _ _).alloc (Nat.le_refl _) _
theorem Keep.alloc' {a w : World} (h : Keep a w) (o : Obj) : Keep a (w.alloc o) := h.trans (Keep.alloc w o)
theorem Keep.drew {a w : World} (h : Keep a w) : Keep a w.drew := Below.drew h
theorem Keep.drewN {a w : World} (h : Keep a w) : ∀ n, Keep a (w.drewN n)
  | 0 => h
  | n + 1 => by rw [World.drewN]; exact Keep.drew (Keep.drewN h n)
theorem Keep.set {a w : World} (h : Keep a w) {p : Addr} (hp : a.heap.size ≤ p.block) (u : Value) : Keep a (w.setCell p u) := Below.setCell h hp u
theorem Keep.size {w w' : World} (h : Keep w w') : w.heap.size ≤ w'.heap.size := Below.size h
theorem Keep.cells {W w1 : World} (hb : Keep W w1) : (∀ b o, b < W.heap.size → w1.cell? ⟨b, o, none⟩ = W.cell? ⟨b, o, none⟩) ∧ (∀ b o, b < W.heap.size → w1.frozen? ⟨b, o, none⟩ = W.frozen? ⟨b, o, none⟩) :=
  ⟨fun b o h => Below.cell hb (p := ⟨b, o, none⟩) h, fun b o h => Below.frozen hb (p := ⟨b, o, none⟩) h⟩

theorem version_any (n f : ByteArray) (op v sl : Int) (on : Bool) (w : World) :
    Calls Tryz.prog 142 #[.agg #[.string n, .int .i64 op, .int .i64 v, .int .i64 sl, .string f, .bool on]] w fun e w' => e = .returned (.bool (verB op v)) ∧ Keep w w' := by
  by_cases h : op = 0
  · have h' : (op == 0) = true := by simp [h]
    have H : Hid (verB op v = (v == 0)) := by show verB op v = (v == 0); unfold verB; rw [if_pos h]; rfl
    clear h
    go_enter Tryz.func142, Tryz.ntmps142
    go_wp2
    go_ret
    exact ⟨ret_bool H.out.symm, Keep.alloc _ _⟩
  · have h' : (op == 0) = false := by simp [h]
    have H : Hid (verB op v = (decide (1 ≤ v) && decide (v ≤ 99))) := by show verB op v = _; unfold verB; rw [if_neg h]
    clear h
    by_cases h1 : 1 ≤ v
    · go_enter Tryz.func142, Tryz.ntmps142
      go_wp2
      go_ret
      exact ⟨ret_bool (by rw [H.out]; simp [h1]), Keep.alloc _ _⟩
    · go_enter Tryz.func142, Tryz.ntmps142
      go_wp2
      go_ret
      exact ⟨ret_bool (by rw [H.out, decide_eq_false (by omega)]; rfl), Keep.alloc _ _⟩

theorem fits_any (n f : ByteArray) (op v sl : Int) (on : Bool) (ver slot : Int) (w : World) :
    Calls Tryz.prog 143 #[.agg #[.string n, .int .i64 op, .int .i64 v, .int .i64 sl, .string f, .bool on], .int .i64 ver, .int .i64 slot] w fun e w' => e = .returned (.bool (fitB op v sl ver slot)) ∧ Keep w w' := by
  by_cases h : sl ≠ 0 ∧ sl ≠ slot
  · have h0 : (sl != 0) = true := by simp [h.1]
    have h1 : (sl != slot) = true := by simp [h.2]
    have H : Hid (fitB op v sl ver slot = false) := by show fitB op v sl ver slot = false; unfold fitB; rw [if_pos h]
    clear h
    go_enter Tryz.func143, Tryz.ntmps143
    go_wp2
    go_ret
    exact ⟨ret_bool H.out.symm, Keep.alloc _ _⟩
  · have H : Hid (fitB op v sl ver slot = if op = 1 then decide (ver = v) else if op = 2 then decide (v ≤ ver) else if op = 3 then decide (ver < v) else true) := by show fitB op v sl ver slot = _; unfold fitB; rw [if_neg h]
    have hs : (sl != 0) = false ∨ (sl != 0) = true ∧ (sl != slot) = false := by
      by_cases e : sl = 0
      · left; simp [e]
      · right; exact ⟨by simp [e], by simp; exact Decidable.byContradiction fun e' => h ⟨e, e'⟩⟩
    clear h
    have ho : ((op == 1) = true ∧ Hid (fitB op v sl ver slot = (ver == v))) ∨ ((op == 1) = false ∧ (op == 2) = true ∧ Hid (fitB op v sl ver slot = decide (v ≤ ver))) ∨ ((op == 1) = false ∧ (op == 2) = false ∧ (op == 3) = true ∧ Hid (fitB op v sl ver slot = decide (ver < v))) ∨ ((op == 1) = false ∧ (op == 2) = false ∧ (op == 3) = false ∧ Hid (fitB op v sl ver slot = true)) := by
      by_cases e1 : op = 1
      · left; refine ⟨by simp [e1], ?_⟩; show _ = _; rw [H.out, if_pos e1]; rfl
      · by_cases e2 : op = 2
        · right; left; refine ⟨by simp [e2], by simp [e2], ?_⟩; show _ = _; rw [H.out, if_neg e1, if_pos e2]
        · by_cases e3 : op = 3
          · right; right; left; refine ⟨by simp [e3], by simp [e3], by simp [e3], ?_⟩; show _ = _; rw [H.out, if_neg e1, if_neg e2, if_pos e3]
          · right; right; right; refine ⟨by simp [e1], by simp [e2], by simp [e3], ?_⟩; show _ = _; rw [H.out, if_neg e1, if_neg e2, if_neg e3]
    clear H
    rcases hs with hs | ⟨hs, hs2⟩ <;> rcases ho with ⟨o1, H⟩ | ⟨o1, o2, H⟩ | ⟨o1, o2, o3, H⟩ | ⟨o1, o2, o3, H⟩
    all_goals
      go_enter Tryz.func143, Tryz.ntmps143
      go_wp2
      go_ret
      exact ⟨ret_bool H.out.symm, Keep.alloc _ _⟩

theorem empty_false {f : ByteArray} (h : f.data.toList ≠ []) : f.toList.isEmpty = false := by
  rw [Go.Lib.toList_data]
  cases e : f.data.toList with
  | nil => exact absurd e h
  | cons _ _ => rfl
theorem empty_true {f : ByteArray} (h : f.data.toList = []) : f.toList.isEmpty = true := by
  rw [Go.Lib.toList_data, h]; rfl

theorem chk_form (n : List UInt8) (op v sl : Int) (f : List UInt8) (on : Bool) (hn : nameB n = true) (hf : f = [] ∨ nameB f = true) :
    (op < 0 ∧ Hid (chk n op v sl f on = 3)) ∨ (0 ≤ op ∧ 4 ≤ op ∧ Hid (chk n op v sl f on = 3)) ∨ (0 ≤ op ∧ op < 4 ∧ sl < 0 ∧ Hid (chk n op v sl f on = 3)) ∨ (0 ≤ op ∧ op < 4 ∧ 0 ≤ sl ∧ 9 < sl ∧ Hid (chk n op v sl f on = 3))
    ∨ (0 ≤ op ∧ op < 4 ∧ 0 ≤ sl ∧ sl ≤ 9 ∧ Hid (verB op v = false) ∧ Hid (chk n op v sl f on = 3)) ∨ (0 ≤ op ∧ op < 4 ∧ 0 ≤ sl ∧ sl ≤ 9 ∧ Hid (verB op v = true) ∧ Hid (chk n op v sl f on = if on = true ∧ f = [] then 4 else 0)) := by
  have h1 : ¬ (nameB n = false ∨ (f ≠ [] ∧ nameB f = false)) := by
    rintro (h | ⟨h, h'⟩)
    · rw [hn] at h; cases h
    · rcases hf with hf | hf
      · exact h hf
      · rw [hf] at h'; cases h'
  have e : chk n op v sl f on = if op < 0 ∨ 4 ≤ op ∨ sl < 0 ∨ 9 < sl ∨ verB op v = false then 3 else if on = true ∧ f = [] then 4 else 0 := by
    unfold chk; rw [if_neg h1]
  have e3 : (op < 0 ∨ 4 ≤ op ∨ sl < 0 ∨ 9 < sl ∨ verB op v = false) → Hid (chk n op v sl f on = 3) := fun h => by
    show _ = _; rw [e, if_pos h]
  by_cases a1 : op < 0
  · exact Or.inl ⟨a1, e3 (Or.inl a1)⟩
  · by_cases a2 : 4 ≤ op
    · exact Or.inr (Or.inl ⟨by omega, a2, e3 (Or.inr (Or.inl a2))⟩)
    · by_cases a3 : sl < 0
      · exact Or.inr (Or.inr (Or.inl ⟨by omega, by omega, a3, e3 (Or.inr (Or.inr (Or.inl a3)))⟩))
      · by_cases a4 : 9 < sl
        · exact Or.inr (Or.inr (Or.inr (Or.inl ⟨by omega, by omega, by omega, a4, e3 (Or.inr (Or.inr (Or.inr (Or.inl a4))))⟩)))
        · cases a5 : verB op v
          · exact Or.inr (Or.inr (Or.inr (Or.inr (Or.inl ⟨by omega, by omega, by omega, by omega, rfl, e3 (Or.inr (Or.inr (Or.inr (Or.inr a5))))⟩))))
          · refine Or.inr (Or.inr (Or.inr (Or.inr (Or.inr ⟨by omega, by omega, by omega, by omega, rfl, ?_⟩))))
            show _ = _
            rw [e, if_neg]
            rintro (h | h | h | h | h)
            · exact a1 h
            · exact a2 h
            · exact a3 h
            · exact a4 h
            · rw [a5] at h; cases h

set_option maxHeartbeats 1000000 in
theorem check_bad (n f : ByteArray) (op v sl : Int) (on : Bool) (w : World) (h : nameB n.data.toList = false ∨ (f.data.toList ≠ [] ∧ nameB f.data.toList = false)) :
    Calls Tryz.prog 84 #[.agg #[.string n, .int .i64 op, .int .i64 v, .int .i64 sl, .string f, .bool on]] w fun e w' => e = .returned (.int .i64 (chk n.data.toList op v sl f.data.toList on)) ∧ Keep w w' := by
  have HC : Hid (chk n.data.toList op v sl f.data.toList on = 1) := by show _ = _; unfold chk; rw [if_pos h]
  cases hn : nameB n.data.toList
  · have HN : Hid (nameB n.data.toList = false) := hn
    clear hn h
    go_enter Tryz.func84, Tryz.ntmps84
    go_wp2_with (go_at_call 131; refine (name_any _ _).mono ?_; rintro e w' ⟨rfl, rfl⟩; rw [HN.out])
    go_ret
    exact ⟨ret_int HC.out.symm, Keep.alloc _ _⟩
  · have HN : Hid (nameB n.data.toList = true) := hn
    rw [hn] at h
    obtain ⟨h1, h2⟩ : f.data.toList ≠ [] ∧ nameB f.data.toList = false := h.resolve_left (by simp)
    have HF : Hid (nameB f.data.toList = false) := h2
    have hfe := empty_false h1
    clear hn h h1 h2
    go_enter Tryz.func84, Tryz.ntmps84
    go_wp2_with fail
    refine (name_any _ _).mono ?_
    rintro e w' ⟨rfl, hw⟩
    rw [HN.out, hw]
    clear hw
    go_wp2_with fail
    refine (name_any _ _).mono ?_
    rintro e w' ⟨rfl, hw⟩
    rw [HF.out, hw]
    clear hw
    go_wp2_with fail
    go_ret
    exact ⟨ret_int HC.out.symm, Keep.alloc _ _⟩

set_option maxHeartbeats 2000000 in
theorem check_empty (n f : ByteArray) (op v sl : Int) (on : Bool) (w : World) (hn : nameB n.data.toList = true) (hf : f.data.toList = []) :
    Calls Tryz.prog 84 #[.agg #[.string n, .int .i64 op, .int .i64 v, .int .i64 sl, .string f, .bool on]] w fun e w' => e = .returned (.int .i64 (chk n.data.toList op v sl f.data.toList on)) ∧ Keep w w' := by
  have hr := chk_form n.data.toList op v sl f.data.toList on hn (Or.inl hf)
  have HN : Hid (nameB n.data.toList = true) := hn
  have HF : Hid (f.data.toList = []) := hf
  have hfe := empty_true hf
  clear hn hf
  rcases hr with ⟨r1, HC⟩ | ⟨r1, r2, HC⟩ | ⟨r1, r2, r3, HC⟩ | ⟨r1, r2, r3, r4, HC⟩ | ⟨r1, r2, r3, r4, HV, HC⟩ | ⟨r1, r2, r3, r4, HV, HC⟩
  iterate 4
    · go_enter Tryz.func84, Tryz.ntmps84
      go_wp2_with (go_at_call 131; refine (name_any _ _).mono ?_; rintro e w' ⟨rfl, hw⟩; rw [HN.out, hw]; clear hw)
      go_ret
      exact ⟨ret_int HC.out.symm, Keep.alloc _ _⟩
  · go_enter Tryz.func84, Tryz.ntmps84
    go_wp2_with (first | (go_at_call 131; refine (name_any _ _).mono ?_; rintro e w' ⟨rfl, hw⟩; rw [HN.out, hw]; clear hw) | (go_at_call 142; refine (version_any _ _ _ _ _ _ _).mono ?_; rintro e w' ⟨rfl, hk⟩; rw [HV.out]; obtain ⟨hc, hz⟩ := hk.cells))
    go_ret
    exact ⟨ret_int HC.out.symm, (Keep.alloc _ _).trans (by assumption)⟩
  · cases on
    · have HC' : Hid (chk n.data.toList op v sl f.data.toList false = 0) := by show _ = _; rw [HC.out, if_neg (by simp)]
      clear HC
      go_enter Tryz.func84, Tryz.ntmps84
      go_wp2_with (first | (go_at_call 131; refine (name_any _ _).mono ?_; rintro e w' ⟨rfl, hw⟩; rw [HN.out, hw]; clear hw) | (go_at_call 142; refine (version_any _ _ _ _ _ _ _).mono ?_; rintro e w' ⟨rfl, hk⟩; rw [HV.out]; obtain ⟨hc, hz⟩ := hk.cells))
      go_ret
      exact ⟨ret_int HC'.out.symm, (Keep.alloc _ _).trans (by assumption)⟩
    · have HC' : Hid (chk n.data.toList op v sl f.data.toList true = 4) := by show _ = _; rw [HC.out, if_pos ⟨rfl, HF.out⟩]
      clear HC
      go_enter Tryz.func84, Tryz.ntmps84
      go_wp2_with (first | (go_at_call 131; refine (name_any _ _).mono ?_; rintro e w' ⟨rfl, hw⟩; rw [HN.out, hw]; clear hw) | (go_at_call 142; refine (version_any _ _ _ _ _ _ _).mono ?_; rintro e w' ⟨rfl, hk⟩; rw [HV.out]; obtain ⟨hc, hz⟩ := hk.cells))
      go_ret
      exact ⟨ret_int HC'.out.symm, (Keep.alloc _ _).trans (by assumption)⟩

set_option maxHeartbeats 2000000 in
theorem check_flag (n f : ByteArray) (op v sl : Int) (on : Bool) (w : World) (hn : nameB n.data.toList = true) (hf : nameB f.data.toList = true) :
    Calls Tryz.prog 84 #[.agg #[.string n, .int .i64 op, .int .i64 v, .int .i64 sl, .string f, .bool on]] w fun e w' => e = .returned (.int .i64 (chk n.data.toList op v sl f.data.toList on)) ∧ Keep w w' := by
  have hr := chk_form n.data.toList op v sl f.data.toList on hn (Or.inr hf)
  have HN : Hid (nameB n.data.toList = true) := hn
  have HF : Hid (nameB f.data.toList = true) := hf
  have hfe := empty_false (nameB_pos hf)
  clear hn hf
  rcases hr with ⟨r1, HC⟩ | ⟨r1, r2, HC⟩ | ⟨r1, r2, r3, HC⟩ | ⟨r1, r2, r3, r4, HC⟩ | ⟨r1, r2, r3, r4, HV, HC⟩ | ⟨r1, r2, r3, r4, HV, HC⟩
  iterate 4
    · go_enter Tryz.func84, Tryz.ntmps84
      go_wp2_with (go_at_call 131; refine (name_any _ _).mono ?_; rintro e w' ⟨rfl, hw⟩; first | rw [HN.out, hw] | rw [HF.out, hw]; clear hw)
      go_ret
      exact ⟨ret_int HC.out.symm, Keep.alloc _ _⟩
  · go_enter Tryz.func84, Tryz.ntmps84
    go_wp2_with (first | (go_at_call 131; refine (name_any _ _).mono ?_; rintro e w' ⟨rfl, hw⟩; first | rw [HN.out, hw] | rw [HF.out, hw]; clear hw) | (go_at_call 142; refine (version_any _ _ _ _ _ _ _).mono ?_; rintro e w' ⟨rfl, hk⟩; rw [HV.out]; obtain ⟨hc, hz⟩ := hk.cells))
    go_ret
    exact ⟨ret_int HC.out.symm, (Keep.alloc _ _).trans (by assumption)⟩
  · have HC' : Hid (chk n.data.toList op v sl f.data.toList on = 0) := by
      show _ = _
      rw [HC.out, if_neg]
      rintro ⟨_, h⟩
      exact nameB_pos HF.out h
    clear HC
    cases on
    all_goals
      go_enter Tryz.func84, Tryz.ntmps84
      go_wp2_with (first | (go_at_call 131; refine (name_any _ _).mono ?_; rintro e w' ⟨rfl, hw⟩; first | rw [HN.out, hw] | rw [HF.out, hw]; clear hw) | (go_at_call 142; refine (version_any _ _ _ _ _ _ _).mono ?_; rintro e w' ⟨rfl, hk⟩; rw [HV.out]; obtain ⟨hc, hz⟩ := hk.cells))
      go_ret
      exact ⟨ret_int HC'.out.symm, (Keep.alloc _ _).trans (by assumption)⟩

theorem check_any (n f : ByteArray) (op v sl : Int) (on : Bool) (w : World) :
    Calls Tryz.prog 84 #[.agg #[.string n, .int .i64 op, .int .i64 v, .int .i64 sl, .string f, .bool on]] w fun e w' => e = .returned (.int .i64 (chk n.data.toList op v sl f.data.toList on)) ∧ Keep w w' := by
  cases hn : nameB n.data.toList
  · exact check_bad n f op v sl on w (Or.inl hn)
  · by_cases hf : f.data.toList = []
    · exact check_empty n f op v sl on w hn hf
    · cases hg : nameB f.data.toList
      · exact check_bad n f op v sl on w (Or.inr ⟨hf, hg⟩)
      · exact check_flag n f op v sl on w hn hg
end Go.Proofs.YtkckkjpkidcbnaaGreatDoor
