/- The reference's IsName, FitsTo and whole answer as the plain functions nameB, fitB, numB and numV say. -/
import Derived.Test.YtkckkjpkidcbnaaGreatDoorAtomAsked
import Derived.Test.YtkckkjpkidcbnaaGreatDoorShelfB
import Derived.Shelf.Strings.SlTrimAscii
import Derived.Lib.ParseIntBTie
namespace Go.Proofs.YtkckkjpkidcbnaaGreatDoor
open Go.RowKit Go.Sort

def lettersL : List UInt8 := [97, 98, 99, 100, 101, 102, 103, 104, 105, 106, 107, 108, 109, 110, 111, 112, 113, 114, 115, 116, 117, 118, 119, 120, 121, 122]
def signsL : List UInt8 := [97, 98, 99, 100, 101, 102, 103, 104, 105, 106, 107, 108, 109, 110, 111, 112, 113, 114, 115, 116, 117, 118, 119, 120, 121, 122, 48, 49, 50, 51, 52, 53, 54, 55, 56, 57]
theorem letters_fin : ∀ n : Fin 256, decide (0 ≤ Lib.indexByte lettersL (UInt8.ofNat n.val)) = letB (UInt8.ofNat n.val) := by decide +kernel
theorem signs_fin : ∀ n : Fin 256, signsL.contains (UInt8.ofNat n.val) = okB (UInt8.ofNat n.val) := by decide +kernel
theorem byte_ofNat (c : UInt8) : UInt8.ofNat c.toNat = c := by simp
theorem letters_eq (c : UInt8) : decide (0 ≤ Lib.indexByte lettersL c) = letB c := by
  have := letters_fin ⟨c.toNat, c.toNat_lt⟩
  rwa [byte_ofNat] at this
theorem signs_eq (c : UInt8) : signsL.contains c = okB c := by
  have := signs_fin ⟨c.toNat, c.toNat_lt⟩
  rwa [byte_ofNat] at this
theorem dropWhile_nil {p : UInt8 → Bool} : ∀ l : List UInt8, (l.dropWhile p = []) ↔ l.all p = true
  | [] => by simp
  | c :: l => by
    rw [List.dropWhile_cons, List.all_cons]
    cases h : p c
    · simp
    · simp [dropWhile_nil l]
theorem trim_nil (l : List UInt8) : (Lib.trimS l signsL = []) ↔ l.all okB = true := by
  have e : ∀ l : List UInt8, l.all (signsL.contains ·) = l.all okB := fun l => by
    induction l with
    | nil => rfl
    | cons c l ih => rw [List.all_cons, List.all_cons, signs_eq, ih]
  unfold Lib.trimS Lib.trimLeftS Lib.trimRightS
  rw [dropWhile_nil, e]
  constructor
  · intro h
    by_cases hh : l.reverse.all okB = true
    · simpa using hh
    · exfalso
      have hne : l.reverse.dropWhile (signsL.contains ·) ≠ [] := fun h0 => hh (by rw [← e]; exact (dropWhile_nil _).1 h0)
      obtain ⟨c, r, hr⟩ := List.exists_cons_of_ne_nil hne
      have hc := List.head?_dropWhile_not (signsL.contains ·) l.reverse
      rw [hr] at hc h
      rw [List.all_reverse, List.all_cons, Bool.and_eq_true] at h
      have : okB c = false := by rw [← signs_eq]; simpa using hc
      rw [this] at h
      cases h.1
  · intro h
    have : l.reverse.dropWhile (signsL.contains ·) = [] := (dropWhile_nil _).2 (by rw [e, List.all_reverse]; exact h)
    rw [this]; rfl

theorem trim_any (s : ByteArray) (w : World) (hs : s.size ≤ 8) :
    Calls Tryz.prog 128 #[.string s, .string ⟨#[97, 98, 99, 100, 101, 102, 103, 104, 105, 106, 107, 108, 109, 110, 111, 112, 113, 114, 115, 116, 117, 118, 119, 120, 121, 122, 48, 49, 50, 51, 52, 53, 54, 55, 56, 57]⟩] w fun e w' => ∃ t : ByteArray, e = .returned (.string t) ∧ t.toList.isEmpty = s.data.toList.all okB ∧ Keep w w' := by
  have c : Calls Tryz.prog 128 #[.string s, .string ⟨#[97, 98, 99, 100, 101, 102, 103, 104, 105, 106, 107, 108, 109, 110, 111, 112, 113, 114, 115, 116, 117, 118, 119, 120, 121, 122, 48, 49, 50, 51, 52, 53, 54, 55, 56, 57]⟩] w fun e w' => e = .returned (.string ⟨(Lib.trimS s.data.toList signsL).toArray⟩) ∧ Below w.heap.size w w' :=
    Any.strings_Trim_laid Tryz.lays160 (by kernel_rfl) s ⟨signsL.toArray⟩ w (by omega) (by decide) (ascii_of_all (by decide))
  refine c.mono ?_
  rintro e w' ⟨rfl, k⟩
  refine ⟨_, rfl, ?_, k⟩
  rw [Lib.toList_data]
  show (Lib.trimS s.data.toList signsL).isEmpty = _
  rw [Bool.eq_iff_iff, List.isEmpty_iff, trim_nil]

theorem bytes_ext {n m : ByteArray} (h : n.data.toList = m.data.toList) : n = m := by
  cases n; cases m; simp at h; rw [h]
theorem headB_at (s : ByteArray) (h : 0 < s.size) : headB s.data.toList = letB s[0] := by rw [list_cons s h]; rfl
theorem nameB_parts (s : ByteArray) (h : 0 < s.size) (h8 : s.size ≤ 8) : nameB s.data.toList = (letB s[0] && s.data.toList.all okB) := by
  unfold nameB
  rw [headB_at s h, decide_eq_true (by rw [size_list]; exact h8)]
  rfl

set_option maxHeartbeats 1000000 in
theorem isName_any (s : ByteArray) (w : World) :
    Calls Tryz.prog 65 #[.string s] w fun e w' => e = .returned (.bool (nameB s.data.toList)) ∧ Keep w w' := by
  by_cases h1 : s.size < 1
  · have H : Hid (nameB s.data.toList = false) := nameB_len s (Or.inl h1)
    have h1' : decide ((0 : Int) < (s.size : Int)) = false := decide_eq_false (by omega)
    go_enter Tryz.func65, Tryz.ntmps65
    go_wp2
    go_ret
    exact ⟨ret_bool H.out.symm, Keep.refl _⟩
  · by_cases h8 : 8 < s.size
    · have H : Hid (nameB s.data.toList = false) := nameB_len s (Or.inr h8)
      have h1' : (0 : Int) < (s.size : Int) := by omega
      have h8' : decide ((s.size : Int) ≤ 8) = false := decide_eq_false (by omega)
      go_enter Tryz.func65, Tryz.ntmps65
      go_wp2
      go_ret
      exact ⟨ret_bool H.out.symm, Keep.refl _⟩
    · have hp : 0 < s.size := by omega
      have h1' : (0 : Int) < (s.size : Int) := by omega
      have h8' : (s.size : Int) ≤ 8 := by omega
      have q1 : (1 : Int) ≤ (s.size : Int) := by omega
      have HN : Hid (nameB s.data.toList = (letB s[0] && s.data.toList.all okB)) := nameB_parts s hp (by omega)
      have hx : s.extract 0 1 = ⟨#[s[0]]⟩ := bytes_ext (by rw [Lib.extract_data, list_cons s hp]; rfl)
      have HX : Hid (s.extract 0 1 = ⟨#[s[0]]⟩) := hx
      clear hx
      cases hl : letB s[0]
      · have HL : Hid (letB s[0] = false) := hl
        clear hl
        go_enter Tryz.func65, Tryz.ntmps65
        go_wp2_with fail
        rw [HX.out]
        refine (Tryz.strings_Contains_one _ _ _).mono ?_
        rintro e w' ⟨rfl, hw⟩
        rw [hw, show (ByteArray.mk #[97, 98, 99, 100, 101, 102, 103, 104, 105, 106, 107, 108, 109, 110, 111, 112, 113, 114, 115, 116, 117, 118, 119, 120, 121, 122]).data.toList = lettersL from rfl, letters_eq, HL.out]
        clear hw
        go_wp2_with fail
        go_ret
        exact ⟨ret_bool (by rw [HN.out, HL.out]; rfl), Keep.refl _⟩
      · have HL : Hid (letB s[0] = true) := hl
        clear hl
        go_enter Tryz.func65, Tryz.ntmps65
        go_wp2_with fail
        rw [HX.out]
        refine (Tryz.strings_Contains_one _ _ _).mono ?_
        rintro e w' ⟨rfl, hw⟩
        rw [hw, show (ByteArray.mk #[97, 98, 99, 100, 101, 102, 103, 104, 105, 106, 107, 108, 109, 110, 111, 112, 113, 114, 115, 116, 117, 118, 119, 120, 121, 122]).data.toList = lettersL from rfl, letters_eq, HL.out]
        clear hw
        go_wp2_with fail
        refine (trim_any _ _ (by omega)).mono ?_
        rintro e w2 ⟨t, rfl, ht, k2⟩
        have HTT : Hid (t.toList.isEmpty = s.data.toList.all okB) := ht
        clear ht
        go_wp2_with fail
        go_ret
        exact ⟨ret_bool (by rw [HN.out, HL.out, ← HTT.out]; rfl), k2⟩

theorem fitsTo_any (n f : ByteArray) (op v sl : Int) (on : Bool) (ver slot : Int) (w : World) :
    Calls Tryz.prog 34 #[.agg #[.string n, .int .i64 op, .int .i64 v, .int .i64 sl, .string f, .bool on], .int .i64 ver, .int .i64 slot] w fun e w' => e = .returned (.bool (fitB op v sl ver slot)) ∧ Keep w w' := by
  have ho : ((op == 1) = true ∧ op = 1) ∨ ((op == 1) = false ∧ (op == 2) = true ∧ op = 2) ∨ ((op == 1) = false ∧ (op == 2) = false ∧ (op == 3) = true ∧ op = 3) ∨ ((op == 1) = false ∧ (op == 2) = false ∧ (op == 3) = false) := by
    by_cases e1 : op = 1
    · left; simp [e1]
    · by_cases e2 : op = 2
      · right; left; simp [e2]
      · by_cases e3 : op = 3
        · right; right; left; simp [e3]
        · right; right; right; simp [e1, e2, e3]
  by_cases h : sl ≠ 0 ∧ sl ≠ slot
  · have h0 : (sl == 0) = false := by simp [h.1]
    have h1 : (sl == slot) = false := by simp [h.2]
    have H : Hid (fitB op v sl ver slot = false) := by show fitB op v sl ver slot = false; unfold fitB; rw [if_pos h]
    clear h
    rcases ho with ⟨o1, _⟩ | ⟨o1, o2, _⟩ | ⟨o1, o2, o3, _⟩ | ⟨o1, o2, o3⟩
    all_goals
      go_enter Tryz.func34, Tryz.ntmps34
      go_wp2
      go_ret
      exact ⟨ret_bool H.out.symm, Keep.alloc _ _⟩
  · have H : Hid (fitB op v sl ver slot = if op = 1 then decide (ver = v) else if op = 2 then decide (v ≤ ver) else if op = 3 then decide (ver < v) else true) := by show fitB op v sl ver slot = _; unfold fitB; rw [if_neg h]
    have hs : (sl == 0) = true ∨ (sl == 0) = false ∧ (sl == slot) = true := by
      by_cases e : sl = 0
      · left; simp [e]
      · right; exact ⟨by simp [e], by simp; exact Decidable.byContradiction fun e' => h ⟨e, e'⟩⟩
    clear h ho
    have ho : ((op == 1) = true ∧ Hid (fitB op v sl ver slot = (ver == v))) ∨ ((op == 1) = false ∧ (op == 2) = true ∧ Hid (fitB op v sl ver slot = decide (v ≤ ver))) ∨ ((op == 1) = false ∧ (op == 2) = false ∧ (op == 3) = true ∧ Hid (fitB op v sl ver slot = decide (ver < v))) ∨ ((op == 1) = false ∧ (op == 2) = false ∧ (op == 3) = false ∧ Hid (fitB op v sl ver slot = true)) := by
      by_cases e1 : op = 1
      · left; refine ⟨by simp [e1], ?_⟩; show _ = _; rw [H.out, if_pos e1]; rfl
      · by_cases e2 : op = 2
        · right; left; refine ⟨by simp [e2], by simp [e2], ?_⟩; show _ = _; rw [H.out, if_neg e1, if_pos e2]
        · by_cases e3 : op = 3
          · right; right; left; refine ⟨by simp [e3], by simp [e3], by simp [e3], ?_⟩; show _ = _; rw [H.out, if_neg e1, if_neg e2, if_pos e3]
          · right; right; right; refine ⟨by simp [e1], by simp [e2], by simp [e3], ?_⟩; show _ = _; rw [H.out, if_neg e1, if_neg e2, if_neg e3]
    clear H
    rcases hs with hs | ⟨hs, hs2⟩ <;> rcases ho with ⟨o1, H⟩ | ⟨o1, o2, H⟩ | ⟨o1, o2, o3, H⟩ | ⟨o1, o2, o3, H⟩
    all_goals
      go_enter Tryz.func34, Tryz.ntmps34
      go_wp2
      go_ret
      exact ⟨ret_bool H.out.symm, Keep.alloc _ _⟩

theorem parseInt_bad (s : ByteArray) (w : World) (hE : Env w) (hs : s.size ≤ 20000) (h : ∀ v, Lib.atoiAll s.data.toList ≠ .ok v) :
    Calls Tryz.prog 148 #[.string s, .int .i64 10, .int .i64 64] w fun e w' => ∃ n p, e = .returned (.tuple #[.int .i64 n, .iface 245 (.pointer (some p))]) ∧ Keep w w' := by
  obtain ⟨_, _, ⟨_, t, p, h5⟩, ⟨_, u, q, h7⟩⟩ := hE
  rcases hh : Lib.parseIntB 64 s.data.toList with v | _ | _
  · exact absurd (by rw [← Lib.parseIntB_64]; exact hh) (h v)
  · have c : Calls Tryz.prog 148 #[.string s, .int .i64 10, .int .i64 64] w fun e w' => ∃ N, e = .returned (.tuple #[.int .i64 (0), .iface 245 (.pointer (some ⟨N, 0, none⟩))]) ∧ w.heap.size ≤ N ∧ w'.heap[N]? = some (.cells #[.string ⟨#[80, 97, 114, 115, 101, 73, 110, 116]⟩, .string s, .iface t p] 263 (0, 0)) ∧ Below w.heap.size w w' :=
      Any.strconv_ParseInt_10_at64_syntax Tryz.laysC174 s (by omega) hh _ w h5 (Or.inr ⟨_, _, rfl⟩)
    refine c.mono ?_
    rintro e w' ⟨N, rfl, _, _, k⟩
    exact ⟨_, _, rfl, k⟩
  · have c : Calls Tryz.prog 148 #[.string s, .int .i64 10, .int .i64 64] w fun e w' => ∃ N, e = .returned (.tuple #[.int .i64 (Lib.intSat 64 s.data.toList), .iface 245 (.pointer (some ⟨N, 0, none⟩))]) ∧ w.heap.size ≤ N ∧ w'.heap[N]? = some (.cells #[.string ⟨#[80, 97, 114, 115, 101, 73, 110, 116]⟩, .string s, .iface u q] 263 (0, 0)) ∧ Below w.heap.size w w' :=
      Any.strconv_ParseInt_10_at64_range Tryz.laysC174 s (by omega) hh _ w h7 (Or.inr ⟨_, _, rfl⟩)
    refine c.mono ?_
    rintro e w' ⟨N, rfl, _, _, k⟩
    exact ⟨_, _, rfl, k⟩

set_option maxHeartbeats 1000000 in
theorem whole_any (s : ByteArray) (w : World) (hE : Env w) (hs : s.size ≤ 20000) :
    Calls Tryz.prog 98 #[.string s] w fun e w' => ∃ n : Int, e = .returned (.tuple #[.int .i64 n, .bool (numB s.data.toList)]) ∧ (numB s.data.toList = true → n = numV s.data.toList) ∧ Keep w w' := by
  by_cases hok : ∃ v, Lib.atoiAll s.data.toList = .ok v
  · obtain ⟨v, hv⟩ := hok
    have bd := Lib.atoiAll_bounds hv
    have HV : Hid (Lib.parseIntB 64 s.data.toList = .ok v) := by show _ = _; rw [Lib.parseIntB_64]; exact hv
    have HN : Hid (numV s.data.toList = v) := by show _ = _; unfold numV; rw [hv]
    have HE : Hid (Env w) := hE
    have hbq : ∃ β : Bool, (Lib.itoa v == s.toList) = β ∧ Hid (numB s.data.toList = β) := by
      refine ⟨_, rfl, ?_⟩
      show _ = _
      unfold numB
      rw [hv, Lib.toList_data, Bool.eq_iff_iff]
      simp
    obtain ⟨β, hq, HB⟩ := hbq
    clear hv hE
    go_enter Tryz.func98, Tryz.ntmps98
    go_wp2_with fail
    refine (Tryz.strconv_ParseInt_10_at64_ok s (by omega) v HV.out _).mono ?_
    rintro e w1 ⟨rfl, hw1⟩
    have k1 : Keep w w1 := by
      rcases hw1 with rfl | ⟨t, rfl⟩
      · exact Keep.refl _
      · exact Lib.bytesWorld_below _ _ _
    clear hw1
    go_wp2_with fail
    refine (Tryz.strconv_FormatInt_10 v bd.1 bd.2 _ (HE.out.keep k1).2.1.2).mono ?_
    rintro e w2 ⟨rfl, k, os, hw2⟩
    have k2 : Keep w w2 := k1.trans (hw2 ▸ keep_grow _ _ _)
    clear hw2
    go_wp2_with fail
    go_ret2
    exact ⟨v, ret_ib HB.out.symm, fun _ => HN.out.symm, k2⟩
  · have hno : ∀ v, Lib.atoiAll s.data.toList ≠ .ok v := fun v e => hok ⟨v, e⟩
    have HB : Hid (numB s.data.toList = false) := by
      show _ = _
      unfold numB
      rcases hh : Lib.atoiAll s.data.toList with v | _ | _
      · exact absurd hh (hno v)
      · rfl
      · rfl
    have HE : Hid (Env w) := hE
    have HNO : Hid (∀ v, Lib.atoiAll s.data.toList ≠ .ok v) := hno
    clear hok hE hno
    go_enter Tryz.func98, Tryz.ntmps98
    go_wp2_with fail
    refine (parseInt_bad s _ HE.out hs HNO.out).mono ?_
    rintro e w1 ⟨n, p, rfl, k1⟩
    go_wp2_with fail
    go_ret2
    exact ⟨n, ret_ib HB.out.symm, fun h => by (rw [HB.out] at h; cases h), k1⟩
end Go.Proofs.YtkckkjpkidcbnaaGreatDoor
/- The reference's CheckAtom answers as the plain function chk says, of any atom. -/
namespace Go.Proofs.YtkckkjpkidcbnaaGreatDoor
open Go.RowKit

/-- The ways through the numbers of an atom whose names are right. -/
theorem chk_ways (n : List UInt8) (op v sl : Int) (f : List UInt8) (on : Bool) (hn : nameB n = true) (hf : f = [] ∨ nameB f = true) :
    (op < 0 ∧ Hid (chk n op v sl f on = 3)) ∨ (0 ≤ op ∧ 3 < op ∧ Hid (chk n op v sl f on = 3)) ∨ (0 ≤ op ∧ op ≤ 3 ∧ sl < 0 ∧ Hid (chk n op v sl f on = 3)) ∨ (0 ≤ op ∧ op ≤ 3 ∧ 0 ≤ sl ∧ 9 < sl ∧ Hid (chk n op v sl f on = 3))
    ∨ (0 ≤ op ∧ op ≤ 3 ∧ 0 ≤ sl ∧ sl ≤ 9 ∧ (op == 0) = true ∧ (v != 0) = true ∧ Hid (chk n op v sl f on = 3))
    ∨ (0 ≤ op ∧ op ≤ 3 ∧ 0 ≤ sl ∧ sl ≤ 9 ∧ (op == 0) = false ∧ 0 < op ∧ v < 1 ∧ Hid (chk n op v sl f on = 3))
    ∨ (0 ≤ op ∧ op ≤ 3 ∧ 0 ≤ sl ∧ sl ≤ 9 ∧ (op == 0) = false ∧ 0 < op ∧ 1 ≤ v ∧ 99 < v ∧ Hid (chk n op v sl f on = 3))
    ∨ (0 ≤ op ∧ op ≤ 3 ∧ 0 ≤ sl ∧ sl ≤ 9 ∧ (op == 0) = true ∧ (v != 0) = false ∧ op ≤ 0 ∧ Hid (chk n op v sl f on = if on = true ∧ f = [] then 4 else 0))
    ∨ (0 ≤ op ∧ op ≤ 3 ∧ 0 ≤ sl ∧ sl ≤ 9 ∧ (op == 0) = false ∧ 0 < op ∧ 1 ≤ v ∧ v ≤ 99 ∧ Hid (chk n op v sl f on = if on = true ∧ f = [] then 4 else 0)) := by
  rcases chk_form n op v sl f on hn hf with ⟨r1, HC⟩ | ⟨r1, r2, HC⟩ | ⟨r1, r2, r3, HC⟩ | ⟨r1, r2, r3, r4, HC⟩ | ⟨r1, r2, r3, r4, HV, HC⟩ | ⟨r1, r2, r3, r4, HV, HC⟩
  · exact Or.inl ⟨r1, HC⟩
  · exact Or.inr (Or.inl ⟨r1, by omega, HC⟩)
  · exact Or.inr (Or.inr (Or.inl ⟨r1, by omega, r3, HC⟩))
  · exact Or.inr (Or.inr (Or.inr (Or.inl ⟨r1, by omega, r3, r4, HC⟩)))
  · have hv := HV.out
    unfold verB at hv
    by_cases e : op = 0
    · rw [if_pos e] at hv
      exact Or.inr (Or.inr (Or.inr (Or.inr (Or.inl ⟨r1, by omega, r3, r4, by simp [e], by simpa using hv, HC⟩))))
    · rw [if_neg e] at hv
      by_cases e1 : v < 1
      · exact Or.inr (Or.inr (Or.inr (Or.inr (Or.inr (Or.inl ⟨r1, by omega, r3, r4, by simp [e], by omega, e1, HC⟩)))))
      · have e2 : 99 < v := by
          have h1 : decide (1 ≤ v) = true := decide_eq_true (by omega)
          rw [h1] at hv
          simpa using hv
        exact Or.inr (Or.inr (Or.inr (Or.inr (Or.inr (Or.inr (Or.inl ⟨r1, by omega, r3, r4, by simp [e], by omega, by omega, e2, HC⟩))))))
  · have hv := HV.out
    by_cases e : op = 0
    · have : v = 0 := by subst e; exact verB_zero hv
      exact Or.inr (Or.inr (Or.inr (Or.inr (Or.inr (Or.inr (Or.inr (Or.inl ⟨r1, by omega, r3, r4, by simp [e], by simp [this], by omega, HC⟩)))))))
    · obtain ⟨a, b⟩ := verB_pos e hv
      exact Or.inr (Or.inr (Or.inr (Or.inr (Or.inr (Or.inr (Or.inr (Or.inr ⟨r1, by omega, r3, r4, by simp [e], by omega, a, b, HC⟩)))))))

set_option maxHeartbeats 1000000 in
theorem refCheck_bad (n f : ByteArray) (op v sl : Int) (on : Bool) (w : World) (h : nameB n.data.toList = false ∨ (f.data.toList ≠ [] ∧ nameB f.data.toList = false)) :
    Calls Tryz.prog 33 #[.agg #[.string n, .int .i64 op, .int .i64 v, .int .i64 sl, .string f, .bool on]] w fun e w' => e = .returned (.int .i64 (chk n.data.toList op v sl f.data.toList on)) ∧ Keep w w' := by
  have HC : Hid (chk n.data.toList op v sl f.data.toList on = 1) := by show _ = _; unfold chk; rw [if_pos h]
  have k0 := Keep.alloc w (.cells #[.string n, .int .i64 op, .int .i64 v, .int .i64 sl, .string f, .bool on] 23)
  have a0 : Hid (AtomAt w.heap.size n op v sl f on (w.alloc (.cells #[.string n, .int .i64 op, .int .i64 v, .int .i64 sl, .string f, .bool on] 23))) := one_new _ _
  cases hn : nameB n.data.toList
  · have HN : Hid (nameB n.data.toList = false) := hn
    clear hn h
    go_enter Tryz.func33, Tryz.ntmps33
    go_wp2_with fail
    generalize w.alloc (.cells #[.string n, .int .i64 op, .int .i64 v, .int .i64 sl, .string f, .bool on] 23) = W0 at k0 a0 ⊢
    refine (isName_any _ _).mono ?_
    rintro e w1 ⟨rfl, k1⟩
    rw [HN.out]
    have K1 : Keep w w1 := k0.trans k1
    go_wp2_with fail
    go_ret
    exact ⟨ret_int HC.out.symm, K1⟩
  · have HN : Hid (nameB n.data.toList = true) := hn
    rw [hn] at h
    obtain ⟨h1, h2⟩ : f.data.toList ≠ [] ∧ nameB f.data.toList = false := h.resolve_left (by simp)
    have HF : Hid (nameB f.data.toList = false) := h2
    have hfe := empty_false h1
    clear hn h h1 h2
    go_enter Tryz.func33, Tryz.ntmps33
    go_wp2_with fail
    generalize w.alloc (.cells #[.string n, .int .i64 op, .int .i64 v, .int .i64 sl, .string f, .bool on] 23) = W0 at k0 a0 ⊢
    refine (isName_any _ _).mono ?_
    rintro e w1 ⟨rfl, k1⟩
    rw [HN.out]
    have K1 : Keep w w1 := k0.trans k1
    have a1 : Hid (AtomAt w.heap.size n op v sl f on w1) := a0.out.below k1 a0.out.facts.2.2
    obtain ⟨hc1, _, _⟩ := a1.out.facts
    go_wp2_with fail
    refine (isName_any _ _).mono ?_
    rintro e w2 ⟨rfl, k2⟩
    rw [HF.out]
    have K2 : Keep w w2 := K1.trans k2
    go_wp2_with fail
    go_ret
    exact ⟨ret_int HC.out.symm, K2⟩

set_option maxHeartbeats 4000000 in
theorem refCheck_empty (n f : ByteArray) (op v sl : Int) (on : Bool) (w : World) (hn : nameB n.data.toList = true) (hf : f.data.toList = []) :
    Calls Tryz.prog 33 #[.agg #[.string n, .int .i64 op, .int .i64 v, .int .i64 sl, .string f, .bool on]] w fun e w' => e = .returned (.int .i64 (chk n.data.toList op v sl f.data.toList on)) ∧ Keep w w' := by
  have hr := chk_ways n.data.toList op v sl f.data.toList on hn (Or.inl hf)
  have HN : Hid (nameB n.data.toList = true) := hn
  have HF : Hid (f.data.toList = []) := hf
  have hfe := empty_true hf
  have k0 := Keep.alloc w (.cells #[.string n, .int .i64 op, .int .i64 v, .int .i64 sl, .string f, .bool on] 23)
  have a0 : Hid (AtomAt w.heap.size n op v sl f on (w.alloc (.cells #[.string n, .int .i64 op, .int .i64 v, .int .i64 sl, .string f, .bool on] 23))) := one_new _ _
  clear hn hf
  go_enter Tryz.func33, Tryz.ntmps33
  go_wp2_with fail
  generalize w.alloc (.cells #[.string n, .int .i64 op, .int .i64 v, .int .i64 sl, .string f, .bool on] 23) = W0 at k0 a0 ⊢
  refine (isName_any _ _).mono ?_
  rintro e w1 ⟨rfl, k1⟩
  rw [HN.out]
  have K1 : Keep w w1 := k0.trans k1
  have a1 : Hid (AtomAt w.heap.size n op v sl f on w1) := a0.out.below k1 a0.out.facts.2.2
  obtain ⟨hc1, _, _⟩ := a1.out.facts
  have HON : Hid (∀ c : Int, c = (if on = true ∧ f.data.toList = [] then 4 else 0) → c = if on = true then 4 else 0) := fun c e => by rw [e]; simp [HF.out]
  rcases hr with ⟨r1, HC⟩ | ⟨r1, r2, HC⟩ | ⟨r1, r2, r3, HC⟩ | ⟨r1, r2, r3, r4, HC⟩ | ⟨r1, r2, r3, r4, r5, r6, HC⟩ | ⟨r1, r2, r3, r4, r5, r6, r7, HC⟩ | ⟨r1, r2, r3, r4, r5, r6, r7, r8, HC⟩ | ⟨r1, r2, r3, r4, r5, r6, r7, HC⟩ | ⟨r1, r2, r3, r4, r5, r6, r7, r8, HC⟩
  iterate 7
    · go_wp2_with fail
      go_ret
      exact ⟨ret_int HC.out.symm, K1⟩
  iterate 2
    · cases on
      · have HC' : Hid (chk n.data.toList op v sl f.data.toList false = 0) := HON.out _ HC.out
        clear HC HON
        go_wp2_with fail
        go_ret
        exact ⟨ret_int HC'.out.symm, K1⟩
      · have HC' : Hid (chk n.data.toList op v sl f.data.toList true = 4) := HON.out _ HC.out
        clear HC HON
        go_wp2_with fail
        go_ret
        exact ⟨ret_int HC'.out.symm, K1⟩

set_option maxHeartbeats 4000000 in
theorem refCheck_flag (n f : ByteArray) (op v sl : Int) (on : Bool) (w : World) (hn : nameB n.data.toList = true) (hf : nameB f.data.toList = true) :
    Calls Tryz.prog 33 #[.agg #[.string n, .int .i64 op, .int .i64 v, .int .i64 sl, .string f, .bool on]] w fun e w' => e = .returned (.int .i64 (chk n.data.toList op v sl f.data.toList on)) ∧ Keep w w' := by
  have hr := chk_ways n.data.toList op v sl f.data.toList on hn (Or.inr hf)
  have HN : Hid (nameB n.data.toList = true) := hn
  have HF : Hid (nameB f.data.toList = true) := hf
  have hfe := empty_false (nameB_pos hf)
  have HP : Hid (f.data.toList ≠ []) := nameB_pos hf
  have k0 := Keep.alloc w (.cells #[.string n, .int .i64 op, .int .i64 v, .int .i64 sl, .string f, .bool on] 23)
  have a0 : Hid (AtomAt w.heap.size n op v sl f on (w.alloc (.cells #[.string n, .int .i64 op, .int .i64 v, .int .i64 sl, .string f, .bool on] 23))) := one_new _ _
  clear hn hf
  go_enter Tryz.func33, Tryz.ntmps33
  go_wp2_with fail
  generalize w.alloc (.cells #[.string n, .int .i64 op, .int .i64 v, .int .i64 sl, .string f, .bool on] 23) = W0 at k0 a0 ⊢
  refine (isName_any _ _).mono ?_
  rintro e w1 ⟨rfl, k1⟩
  rw [HN.out]
  have K1 : Keep w w1 := k0.trans k1
  have a1 : Hid (AtomAt w.heap.size n op v sl f on w1) := a0.out.below k1 a0.out.facts.2.2
  obtain ⟨hc1, _, _⟩ := a1.out.facts
  go_wp2_with fail
  refine (isName_any _ _).mono ?_
  rintro e w2 ⟨rfl, k2⟩
  rw [HF.out]
  have K2 : Keep w w2 := K1.trans k2
  have a2 : Hid (AtomAt w.heap.size n op v sl f on w2) := a1.out.below k2 a1.out.facts.2.2
  clear hc1
  obtain ⟨hc2, _, _⟩ := a2.out.facts
  rcases hr with ⟨r1, HC⟩ | ⟨r1, r2, HC⟩ | ⟨r1, r2, r3, HC⟩ | ⟨r1, r2, r3, r4, HC⟩ | ⟨r1, r2, r3, r4, r5, r6, HC⟩ | ⟨r1, r2, r3, r4, r5, r6, r7, HC⟩ | ⟨r1, r2, r3, r4, r5, r6, r7, r8, HC⟩ | ⟨r1, r2, r3, r4, r5, r6, r7, HC⟩ | ⟨r1, r2, r3, r4, r5, r6, r7, r8, HC⟩
  iterate 7
    · go_wp2_with fail
      go_ret
      exact ⟨ret_int HC.out.symm, K2⟩
  iterate 2
    · have HC' : Hid (chk n.data.toList op v sl f.data.toList on = 0) := by show _ = _; rw [HC.out, if_neg (fun h => HP.out h.2)]
      clear HC
      cases on
      · go_wp2_with fail
        go_ret
        exact ⟨ret_int HC'.out.symm, K2⟩
      · go_wp2_with fail
        go_ret
        exact ⟨ret_int HC'.out.symm, K2⟩

theorem refCheck_any (n f : ByteArray) (op v sl : Int) (on : Bool) (w : World) :
    Calls Tryz.prog 33 #[.agg #[.string n, .int .i64 op, .int .i64 v, .int .i64 sl, .string f, .bool on]] w fun e w' => e = .returned (.int .i64 (chk n.data.toList op v sl f.data.toList on)) ∧ Keep w w' := by
  cases hn : nameB n.data.toList
  · exact refCheck_bad n f op v sl on w (Or.inl hn)
  · by_cases hf : f.data.toList = []
    · exact refCheck_empty n f op v sl on w hn hf
    · cases hg : nameB f.data.toList
      · exact refCheck_bad n f op v sl on w (Or.inr ⟨hf, hg⟩)
      · exact refCheck_flag n f op v sl on w hn hg
end Go.Proofs.YtkckkjpkidcbnaaGreatDoor
