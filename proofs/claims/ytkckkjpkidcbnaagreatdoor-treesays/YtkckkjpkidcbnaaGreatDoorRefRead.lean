/- The reference's ReadAtom answers as the plain functions prsE and their kin say, of every text of at most 20000 bytes; premises: what the program lays. -/
import Derived.Test.YtkckkjpkidcbnaaGreatDoorRefText
import Derived.Deep.CutBlock
import Derived.Deep.CutRange
namespace Go.Proofs.YtkckkjpkidcbnaaGreatDoor
open Go.RowKit

theorem ret_ssb {x y : ByteArray} {a b : Bool} (h : a = b) : Ending.returned (.tuple #[.string x, .string y, .bool a]) = .returned (.tuple #[.string x, .string y, .bool b]) := by rw [h]
theorem cut_inner (s : ByteArray) (w : World) (hs : s.size ≤ 20000) :
    Calls Tryz.prog 138 #[.string s, .string ⟨#[58]⟩] w fun e w' => (∃ a t : ByteArray, e = .returned (.tuple #[.string a, .string t, .bool (decide (tailOf s.data.toList [58] ≠ []))]) ∧ a.data.toList = ahead s.data.toList [58] ∧ t.data.toList = (tailOf s.data.toList [58]).drop 1) ∧ Keep w w' := by
  have hl := size_list s
  rcases index_parts [58] s.data.toList with ⟨e1, e2, e3⟩ | ⟨i, e1, e2, e3, e4⟩
  · rw [Lib.indexAny_one] at e1
    have H1 : Hid (Lib.indexByte s.data.toList 58 = -1) := e1
    have H2 : Hid (ahead s.data.toList [58] = s.data.toList) := e2
    have H3 : Hid (tailOf s.data.toList [58] = []) := e3
    clear e1 e2 e3 hl
    go_enter Tryz.func138, Tryz.ntmps138
    go_wp2_with fail
    refine (Tryz.stringslite_Index_one _ _ _).mono ?_
    rintro e w1 ⟨rfl, hw⟩
    rw [H1.out, hw]
    clear hw
    go_wp2_with fail
    go_ret3
    exact ⟨⟨s, ⟨#[]⟩, ret_ssb (by rw [H3.out]; rfl), H2.out.symm, by rw [H3.out]; rfl⟩, Keep.refl _⟩
  · rw [Lib.indexAny_one] at e1
    rw [hl] at e2
    have H1 : Hid (Lib.indexByte s.data.toList 58 = (i : Int)) := e1
    have H2 : Hid (ahead s.data.toList [58] = s.data.toList.take i) := e3
    have H3 : Hid (tailOf s.data.toList [58] = s.data.toList.drop i) := e4
    have H4 : Hid (tailOf s.data.toList [58] ≠ []) := by
      show ¬ _
      rw [H3.out]
      intro h
      have := congrArg List.length h
      rw [List.length_drop, hl] at this
      simp at this
      omega
    clear e1 e3 e4 hl
    have q1 : (0 : Int) ≤ (i : Int) := by omega
    have q2 : (i : Int) ≤ (s.size : Int) := by omega
    have q3 : (i : Int) + 1 ≤ (s.size : Int) := by omega
    have q4 : (0 : Int) ≤ (i : Int) + 1 := by omega
    go_enter Tryz.func138, Tryz.ntmps138
    go_wp2_with fail
    refine (Tryz.stringslite_Index_one _ _ _).mono ?_
    rintro e w1 ⟨rfl, hw⟩
    rw [H1.out, hw]
    clear hw
    go_wp2_with fail
    go_region
    go_wp2
    go_ret3
    exact ⟨⟨s.extract 0 i, s.extract (i + 1) s.size, ret_ssb (decide_eq_true H4.out).symm, by rw [H2.out, Lib.extract_data]; simp, by rw [H3.out, Lib.extract_to_end, List.drop_drop]⟩, (Keep.refl _).drew⟩
theorem cut_any (s : ByteArray) (w : World) (hs : s.size ≤ 20000) :
    Calls Tryz.prog 82 #[.string s, .string ⟨#[58]⟩] w fun e w' => (∃ a t : ByteArray, e = .returned (.tuple #[.string a, .string t, .bool (decide (tailOf s.data.toList [58] ≠ []))]) ∧ a.data.toList = ahead s.data.toList [58] ∧ t.data.toList = (tailOf s.data.toList [58]).drop 1) ∧ Keep w w' := by
  generalize hb : decide (tailOf s.data.toList [58] ≠ []) = b
  have HB : Hid (decide (tailOf s.data.toList [58] ≠ []) = b) := hb
  clear hb
  go_enter Tryz.func82, Tryz.ntmps82
  go_wp2_with fail
  refine (cut_inner _ _ hs).mono ?_
  rintro e w1 ⟨⟨a, t, rfl, h1, h2⟩, k⟩
  rw [HB.out]
  go_wp2_with fail
  go_ret3
  exact ⟨⟨a, t, rfl, h1, h2⟩, k⟩

theorem bad_any (w : World) :
    Calls Tryz.prog 136 #[] w fun e w' => e = .returned (.tuple #[.agg #[.string ⟨#[]⟩, .int .i64 0, .int .i64 0, .int .i64 0, .string ⟨#[]⟩, .bool false], .int .i64 1]) ∧ Keep w w' := by
  go_enter Tryz.func136, Tryz.ntmps136
  go_wp2
  exact bodyPost_ret (v := .tuple #[.agg #[.string ⟨#[]⟩, .int .i64 0, .int .i64 0, .int .i64 0, .string ⟨#[]⟩, .bool false], .int .i64 1]) (by simp [results, Tryz.results136, go_sem]) rfl ⟨rfl, Keep.alloc _ _⟩

/-- The two blocks of ReadAtom. -/
def Two (w : World) (n f : ByteArray) (op v sl : Int) (on : Bool) (W : World) : Prop := AtomAt (w.heap.size + 1) n op v sl f on W ∧ AtomAt w.heap.size ⟨#[]⟩ 0 0 0 ⟨#[]⟩ false W ∧ Keep w W
theorem Two.keep {w : World} {n f : ByteArray} {op v sl : Int} {on : Bool} {W W' : World} (h : Two w n f op v sl on W) (k : Keep W W') : Two w n f op v sl on W' :=
  ⟨h.1.below k h.1.facts.2.2, h.2.1.below k h.2.1.facts.2.2, h.2.2.trans k⟩
theorem Two.drew {w : World} {n f : ByteArray} {op v sl : Int} {on : Bool} {W : World} (h : Two w n f op v sl on W) : Two w n f op v sl on W.drew := ⟨h.1, h.2.1, h.2.2.drew⟩
theorem two_set {w : World} {b i : Nat} {W : World} {x : Value} (hb : w.heap.size ≤ b) (k : Keep w W) : Keep w (W.setCell ⟨b, i, none⟩ x) := k.set (p := ⟨b, i, none⟩) hb x

theorem zero_last {w : World} {n f : ByteArray} {op v sl : Int} {on : Bool} {W : World} (h : Two w n f op v sl on W) : AtomAt w.heap.size ⟨#[]⟩ 0 0 0 ⟨#[]⟩ false ((((((W.setCell ⟨w.heap.size, 0, none⟩ (.string ⟨#[]⟩)).setCell ⟨w.heap.size, 1, none⟩ (.int .i64 0)).setCell ⟨w.heap.size, 2, none⟩ (.int .i64 0)).setCell ⟨w.heap.size, 3, none⟩ (.int .i64 0)).setCell ⟨w.heap.size, 4, none⟩ (.string ⟨#[]⟩)).setCell ⟨w.heap.size, 5, none⟩ (.bool false)) ∧ Keep w ((((((W.setCell ⟨w.heap.size, 0, none⟩ (.string ⟨#[]⟩)).setCell ⟨w.heap.size, 1, none⟩ (.int .i64 0)).setCell ⟨w.heap.size, 2, none⟩ (.int .i64 0)).setCell ⟨w.heap.size, 3, none⟩ (.int .i64 0)).setCell ⟨w.heap.size, 4, none⟩ (.string ⟨#[]⟩)).setCell ⟨w.heap.size, 5, none⟩ (.bool false)) := by
  refine ⟨heap_set (heap_set (heap_set (heap_set (heap_set (heap_set h.2.1 0 _) 1 _) 2 _) 3 _) 4 _) 5 _, ?_⟩
  exact two_set (Nat.le_refl _) (two_set (Nat.le_refl _) (two_set (Nat.le_refl _) (two_set (Nat.le_refl _) (two_set (Nat.le_refl _) (two_set (Nat.le_refl _) h.2.2)))))
theorem full_last {w : World} {n f : ByteArray} {op v sl : Int} {on : Bool} {W : World} (h : Two w n f op v sl on W) : AtomAt w.heap.size n op v sl f on ((((((W.setCell ⟨w.heap.size, 0, none⟩ (.string n)).setCell ⟨w.heap.size, 1, none⟩ (.int .i64 op)).setCell ⟨w.heap.size, 2, none⟩ (.int .i64 v)).setCell ⟨w.heap.size, 3, none⟩ (.int .i64 sl)).setCell ⟨w.heap.size, 4, none⟩ (.string f)).setCell ⟨w.heap.size, 5, none⟩ (.bool on)) ∧ Keep w ((((((W.setCell ⟨w.heap.size, 0, none⟩ (.string n)).setCell ⟨w.heap.size, 1, none⟩ (.int .i64 op)).setCell ⟨w.heap.size, 2, none⟩ (.int .i64 v)).setCell ⟨w.heap.size, 3, none⟩ (.int .i64 sl)).setCell ⟨w.heap.size, 4, none⟩ (.string f)).setCell ⟨w.heap.size, 5, none⟩ (.bool on)) := by
  refine ⟨heap_set (heap_set (heap_set (heap_set (heap_set (heap_set h.2.1 0 _) 1 _) 2 _) 3 _) 4 _) 5 _, ?_⟩
  exact two_set (Nat.le_refl _) (two_set (Nat.le_refl _) (two_set (Nat.le_refl _) (two_set (Nat.le_refl _) (two_set (Nat.le_refl _) (two_set (Nat.le_refl _) h.2.2)))))
theorem two_b {w : World} {n f n' f' : ByteArray} {op v sl op' v' sl' : Int} {on on' : Bool} {W : World} (h : Two w n f op v sl on W) (i : Nat) (x : Value) (cs' : AtomAt (w.heap.size + 1) n' op' v' sl' f' on' (W.setCell ⟨w.heap.size + 1, i, none⟩ x)) : Two w n' f' op' v' sl' on' (W.setCell ⟨w.heap.size + 1, i, none⟩ x) :=
  ⟨cs', h.2.1.below (below_set W (w.heap.size + 1) i x) (Nat.lt_succ_self _), two_set (Nat.le_succ _) h.2.2⟩
theorem hit_parts {l m : List UInt8} {i : Nat} {x : UInt8} (h : Lib.NoAny l m i) (hx : l[i]? = some x) (hc : m.contains x = true) : ahead l m = l.take i ∧ tailOf l m = l.drop i := by
  have hh := Lib.indexAny_hit h hx hc
  rcases index_parts m l with ⟨e1, _, _⟩ | ⟨j, e1, _, e3, e4⟩
  · rw [hh] at e1; omega
  · have : j = i := by rw [hh] at e1; omega
    subst this
    exact ⟨e3, e4⟩
theorem none_parts {l m : List UInt8} (h : Lib.NoAny l m l.length) : ahead l m = l ∧ tailOf l m = [] := by
  have hh := Lib.indexAny_none h
  rcases index_parts m l with ⟨_, e2, e3⟩ | ⟨j, e1, _, _, _⟩
  · exact ⟨e2, e3⟩
  · rw [hh] at e1; omega
theorem drop_cons (s : ByteArray) (i : Nat) (h : i < s.size) : s.data.toList.drop i = s[i] :: s.data.toList.drop (i + 1) := by
  rw [List.drop_eq_getElem_cons (by rw [size_list]; exact h)]; rfl
theorem prs_one {l : List UInt8} (hl : ¬ 20000 < l.length) (h : readOk l = false) : prsE l = 1 := by
  unfold prsE; rw [if_neg hl, if_pos h]
theorem ver_61 (r : List UInt8) : verOk (61 :: r) = numB r ∧ opV (61 :: r) = 1 ∧ verV (61 :: r) = numV r := ⟨rfl, rfl, rfl⟩
theorem ver_60 (r : List UInt8) : verOk (60 :: r) = numB r ∧ opV (60 :: r) = 3 ∧ verV (60 :: r) = numV r := ⟨rfl, rfl, rfl⟩
theorem ver_62 (r : List UInt8) (h : Lib.hasPrefix r [61] = true) : verOk (62 :: r) = numB (r.drop 1) ∧ opV (62 :: r) = 2 ∧ verV (62 :: r) = numV (r.drop 1) := by
  obtain ⟨x, hx⟩ := List.isPrefixOf_iff_prefix.1 h
  subst hx
  exact ⟨rfl, rfl, rfl⟩
theorem ver_bad (r : List UInt8) (h : Lib.hasPrefix r [61] = false) : verOk (62 :: r) = false := by
  have e : verOp (62 :: r) = 0 := by
    cases r with
    | nil => rfl
    | cons c r =>
      unfold Lib.hasPrefix at h
      unfold verOp
      have h' : (61 == c) = false := by simpa [List.isPrefixOf] using h
      simp [List.isPrefixOf, h']
  unfold verOk
  rw [e]
  rfl

set_option maxHeartbeats 8000000 in
set_option maxRecDepth 100000 in
theorem refRead_any (s : ByteArray) (w : World) (hE : Env w) (hs : s.size ≤ 20000) :
    Calls Tryz.prog 78 #[.string s] w fun e w' => ParseDone s.data.toList w e w' := by
  have HE : Hid (Env w) := hE
  have HL : Hid (¬ 20000 < s.data.toList.length) := by show ¬ _; rw [size_list]; omega
  clear hE
  have t0 : Hid (Two w ⟨#[]⟩ ⟨#[]⟩ 0 0 0 false ((w.alloc (.cells #[.string ⟨#[]⟩, .int .i64 0, .int .i64 0, .int .i64 0, .string ⟨#[]⟩, .bool false] 23)).alloc (.cells #[.string ⟨#[]⟩, .int .i64 0, .int .i64 0, .int .i64 0, .string ⟨#[]⟩, .bool false] 23))) := ⟨two_second _ _ _, two_first _ _ _, (Keep.alloc _ _).alloc' _⟩
  go_enter Tryz.func78, Tryz.ntmps78
  go_upto_block 0 with fail
  generalize ((w.alloc (.cells #[.string ⟨#[]⟩, .int .i64 0, .int .i64 0, .int .i64 0, .string ⟨#[]⟩, .bool false] 23)).alloc (.cells #[.string ⟨#[]⟩, .int .i64 0, .int .i64 0, .int .i64 0, .string ⟨#[]⟩, .bool false] 23)) = W0 at t0 ⊢
  have HT : Hid (Two w ⟨#[]⟩ ⟨#[]⟩ 0 0 0 false W0) := t0
  clear t0
  go_cut [0] from 17 to 52 (fun s0 wc => ∃ (s1 f : ByteArray) (on : Bool), s0 = .string s1 ∧ s1.data.toList = a1L s.data.toList ∧ f.data.toList = (flL s.data.toList).drop 1 ∧ on = onV (flL s.data.toList) ∧ flagOk (flL s.data.toList) = true ∧ Two w ⟨#[]⟩ f 0 0 0 on wc)
  case first =>
    go_wp2_with fail
    go_loopg [0, 19] s.size (fun g s0 s19 wx => ∃ i : Nat, i + g = s.size ∧ s0 = .string s ∧ s19 = .int .i64 i ∧ wx = W0 ∧ Lib.NoAny s.data.toList [43, 45] i)
    case atStart => exact ⟨0, by omega, rfl, rfl, rfl, Lib.NoAny.zero _ _⟩
    case round =>
      obtain ⟨i, hig, rfl, rfl, rfl, hno⟩ := hrel
      have HN : Hid (Lib.NoAny s.data.toList [43, 45] i) := hno
      clear hno
      by_cases hi : i < s.size
      · have HX : Hid (s.data.toList[i]? = some s[i]) := Lib.data_getElem? s i hi
        obtain ⟨hcB, hzB, _⟩ := HT.out.1.facts
        have q1 : (0 : Int) ≤ (i : Int) + 1 := by omega
        have q2 : (i : Int) + 1 ≤ (s.size : Int) := by omega
        have q3 : (i : Int) ≤ (s.size : Int) := by omega
        by_cases hx1 : s[i] = 43
        · have hxv := hx1
          clear hx1
          have hx : s[i] = 43 := hxv
          have HPt : Hid (a1L s.data.toList = s.data.toList.take i ∧ flL s.data.toList = s.data.toList.drop i) := hit_parts HN.out HX.out (by rw [hx]; decide)
          have hfl : (flL s.data.toList).drop 1 = s.data.toList.drop (i + 1) := by rw [HPt.out.2, List.drop_drop]
          have hon : onV (flL s.data.toList) = true := by rw [HPt.out.2, drop_cons s i hi, hx]; rfl
          have HFL : Hid ((flL s.data.toList).drop 1 = s.data.toList.drop (i + 1) ∧ onV (flL s.data.toList) = true) := ⟨hfl, hon⟩
          have T1 : Hid (Two w ⟨#[]⟩ (s.extract (i + 1) s.size) 0 0 0 true ((wr.setCell ⟨w.heap.size + 1, 4, none⟩ (.string (s.extract (i + 1) s.size))).setCell ⟨w.heap.size + 1, 5, none⟩ (.bool true)).drew) := Two.drew (two_b (two_b (v' := 0) (sl' := 0) (op' := 0) (on' := false) (n' := ⟨#[]⟩) (f' := s.extract (i + 1) s.size) HT.out 4 _ (heap_set HT.out.1 4 _)) 5 _ (heap_set (heap_set HT.out.1 4 _) 5 _))
          have b1 : (((s[i]).toNat : Int) == 43) = true := by rw [hx]; decide
          have b2 : (((s[i]).toNat : Int) == 45) = false := by rw [hx]; decide
          clear hfl hon hx hxv
          cases he : (s.extract (i + 1) s.size).toList.isEmpty
          · have hne : s.data.toList.drop (i + 1) ≠ [] := fun e => by rw [Lib.toList_data, Lib.extract_to_end, e] at he; cases he
            have HNE : Hid (s.data.toList.drop (i + 1) ≠ []) := hne
            clear hne
            go_wp2_with fail
            go_region
            go_wp2_with fail
            go_meet
            case rel =>
              refine ⟨s.extract 0 i, s.extract (i + 1) s.size, true, rfl, by rw [HPt.out.1, Lib.extract_data]; simp, by rw [HFL.out.1, Lib.extract_to_end], HFL.out.2.symm, ?_, T1.out⟩
              unfold flagOk
              rw [HFL.out.1, decide_eq_true (p := s.data.toList.drop (i + 1) ≠ []) HNE.out, Bool.or_true]
          · have hem : s.data.toList.drop (i + 1) = [] := by rw [Lib.toList_data, Lib.extract_to_end] at he; simpa using he
            have HP : Hid (prsE s.data.toList = 1) := prs_one HL.out (by
              have h1 : flL s.data.toList ≠ [] := by rw [HPt.out.2, drop_cons s i hi]; simp
              have h2 : flagOk (flL s.data.toList) = false := by unfold flagOk; rw [decide_eq_false h1, HFL.out.1, hem]; rfl
              unfold readOk; rw [h2]; rfl)
            clear hem
            go_wp2_with fail
            go_region
            go_wp2_with fail
            refine (bad_any _).mono ?_
            rintro e w9 ⟨rfl, k9⟩
            have T9 := T1.out.keep k9
            obtain ⟨hcR, hzR, _⟩ := T9.2.1.facts
            obtain ⟨hW, hKW⟩ := zero_last T9
            have HW : Hid (AtomAt w.heap.size ⟨#[]⟩ 0 0 0 ⟨#[]⟩ false ((((((w9.setCell ⟨w.heap.size, 0, none⟩ (.string ⟨#[]⟩)).setCell ⟨w.heap.size, 1, none⟩ (.int .i64 0)).setCell ⟨w.heap.size, 2, none⟩ (.int .i64 0)).setCell ⟨w.heap.size, 3, none⟩ (.int .i64 0)).setCell ⟨w.heap.size, 4, none⟩ (.string ⟨#[]⟩)).setCell ⟨w.heap.size, 5, none⟩ (.bool false))) := hW
            have KW : Hid (Keep w ((((((w9.setCell ⟨w.heap.size, 0, none⟩ (.string ⟨#[]⟩)).setCell ⟨w.heap.size, 1, none⟩ (.int .i64 0)).setCell ⟨w.heap.size, 2, none⟩ (.int .i64 0)).setCell ⟨w.heap.size, 3, none⟩ (.int .i64 0)).setCell ⟨w.heap.size, 4, none⟩ (.string ⟨#[]⟩)).setCell ⟨w.heap.size, 5, none⟩ (.bool false))) := hKW
            clear hW hKW T9
            go_wp2_with fail
            generalize ((((((w9.setCell ⟨w.heap.size, 0, none⟩ (.string ⟨#[]⟩)).setCell ⟨w.heap.size, 1, none⟩ (.int .i64 0)).setCell ⟨w.heap.size, 2, none⟩ (.int .i64 0)).setCell ⟨w.heap.size, 3, none⟩ (.int .i64 0)).setCell ⟨w.heap.size, 4, none⟩ (.string ⟨#[]⟩)).setCell ⟨w.heap.size, 5, none⟩ (.bool false)) = W at HW KW ⊢
            obtain ⟨hcW, _, _⟩ := HW.out.facts
            exact bodyPost_ret (v := .tuple #[.agg #[.string ⟨#[]⟩, .int .i64 0, .int .i64 0, .int .i64 0, .string ⟨#[]⟩, .bool false], .int .i64 1]) (by simp [results, Tryz.results78, go_sem, hcW]) rfl ⟨⟨#[]⟩, ⟨#[]⟩, 0, 0, 0, false, by rw [HP.out], fun e => by (rw [HP.out] at e; cases e), fun _ => ⟨rfl, rfl, rfl, rfl, rfl, rfl⟩, KW.out⟩
        · by_cases hx2 : s[i] = 45
          · have hxv := hx2
            clear hx1 hx2
            have hx : s[i] = 45 := hxv
            have HPt : Hid (a1L s.data.toList = s.data.toList.take i ∧ flL s.data.toList = s.data.toList.drop i) := hit_parts HN.out HX.out (by rw [hx]; decide)
            have hfl : (flL s.data.toList).drop 1 = s.data.toList.drop (i + 1) := by rw [HPt.out.2, List.drop_drop]
            have hon : onV (flL s.data.toList) = false := by rw [HPt.out.2, drop_cons s i hi, hx]; rfl
            have HFL : Hid ((flL s.data.toList).drop 1 = s.data.toList.drop (i + 1) ∧ onV (flL s.data.toList) = false) := ⟨hfl, hon⟩
            have T1 : Hid (Two w ⟨#[]⟩ (s.extract (i + 1) s.size) 0 0 0 false ((wr.setCell ⟨w.heap.size + 1, 4, none⟩ (.string (s.extract (i + 1) s.size))).setCell ⟨w.heap.size + 1, 5, none⟩ (.bool false)).drew) := Two.drew (two_b (two_b (v' := 0) (sl' := 0) (op' := 0) (on' := false) (n' := ⟨#[]⟩) (f' := s.extract (i + 1) s.size) HT.out 4 _ (heap_set HT.out.1 4 _)) 5 _ (heap_set (heap_set HT.out.1 4 _) 5 _))
            have b1 : (((s[i]).toNat : Int) == 43) = false := by rw [hx]; decide
            have b2 : (((s[i]).toNat : Int) == 45) = true := by rw [hx]; decide
            clear hfl hon hx hxv
            cases he : (s.extract (i + 1) s.size).toList.isEmpty
            · have hne : s.data.toList.drop (i + 1) ≠ [] := fun e => by rw [Lib.toList_data, Lib.extract_to_end, e] at he; cases he
              have HNE : Hid (s.data.toList.drop (i + 1) ≠ []) := hne
              clear hne
              go_wp2_with fail
              go_region
              go_wp2_with fail
              go_meet
              case rel =>
                refine ⟨s.extract 0 i, s.extract (i + 1) s.size, false, rfl, by rw [HPt.out.1, Lib.extract_data]; simp, by rw [HFL.out.1, Lib.extract_to_end], HFL.out.2.symm, ?_, T1.out⟩
                unfold flagOk
                rw [HFL.out.1, decide_eq_true (p := s.data.toList.drop (i + 1) ≠ []) HNE.out, Bool.or_true]
            · have hem : s.data.toList.drop (i + 1) = [] := by rw [Lib.toList_data, Lib.extract_to_end] at he; simpa using he
              have HP : Hid (prsE s.data.toList = 1) := prs_one HL.out (by
                have h1 : flL s.data.toList ≠ [] := by rw [HPt.out.2, drop_cons s i hi]; simp
                have h2 : flagOk (flL s.data.toList) = false := by unfold flagOk; rw [decide_eq_false h1, HFL.out.1, hem]; rfl
                unfold readOk; rw [h2]; rfl)
              clear hem
              go_wp2_with fail
              go_region
              go_wp2_with fail
              refine (bad_any _).mono ?_
              rintro e w9 ⟨rfl, k9⟩
              have T9 := T1.out.keep k9
              obtain ⟨hcR, hzR, _⟩ := T9.2.1.facts
              obtain ⟨hW, hKW⟩ := zero_last T9
              have HW : Hid (AtomAt w.heap.size ⟨#[]⟩ 0 0 0 ⟨#[]⟩ false ((((((w9.setCell ⟨w.heap.size, 0, none⟩ (.string ⟨#[]⟩)).setCell ⟨w.heap.size, 1, none⟩ (.int .i64 0)).setCell ⟨w.heap.size, 2, none⟩ (.int .i64 0)).setCell ⟨w.heap.size, 3, none⟩ (.int .i64 0)).setCell ⟨w.heap.size, 4, none⟩ (.string ⟨#[]⟩)).setCell ⟨w.heap.size, 5, none⟩ (.bool false))) := hW
              have KW : Hid (Keep w ((((((w9.setCell ⟨w.heap.size, 0, none⟩ (.string ⟨#[]⟩)).setCell ⟨w.heap.size, 1, none⟩ (.int .i64 0)).setCell ⟨w.heap.size, 2, none⟩ (.int .i64 0)).setCell ⟨w.heap.size, 3, none⟩ (.int .i64 0)).setCell ⟨w.heap.size, 4, none⟩ (.string ⟨#[]⟩)).setCell ⟨w.heap.size, 5, none⟩ (.bool false))) := hKW
              clear hW hKW T9
              go_wp2_with fail
              generalize ((((((w9.setCell ⟨w.heap.size, 0, none⟩ (.string ⟨#[]⟩)).setCell ⟨w.heap.size, 1, none⟩ (.int .i64 0)).setCell ⟨w.heap.size, 2, none⟩ (.int .i64 0)).setCell ⟨w.heap.size, 3, none⟩ (.int .i64 0)).setCell ⟨w.heap.size, 4, none⟩ (.string ⟨#[]⟩)).setCell ⟨w.heap.size, 5, none⟩ (.bool false)) = W at HW KW ⊢
              obtain ⟨hcW, _, _⟩ := HW.out.facts
              exact bodyPost_ret (v := .tuple #[.agg #[.string ⟨#[]⟩, .int .i64 0, .int .i64 0, .int .i64 0, .string ⟨#[]⟩, .bool false], .int .i64 1]) (by simp [results, Tryz.results78, go_sem, hcW]) rfl ⟨⟨#[]⟩, ⟨#[]⟩, 0, 0, 0, false, by rw [HP.out], fun e => by (rw [HP.out] at e; cases e), fun _ => ⟨rfl, rfl, rfl, rfl, rfl, rfl⟩, KW.out⟩
          · have b1 : (((s[i]).toNat : Int) == 43) = false := by
              rw [beq_eq_false_iff_ne]; intro e; exact hx1 (UInt8.toNat_inj.1 (by have : (43 : UInt8).toNat = 43 := rfl; omega))
            have b2 : (((s[i]).toNat : Int) == 45) = false := by
              rw [beq_eq_false_iff_ne]; intro e; exact hx2 (UInt8.toNat_inj.1 (by have : (45 : UInt8).toNat = 45 := rfl; omega))
            have HS : Hid (Lib.NoAny s.data.toList [43, 45] (i + 1)) := HN.out.succ HX.out (by simp [hx1, hx2])
            clear hx1 hx2
            go_wp2_with fail
            go_roundg (gk - 1)
            case measure => omega
            case rel => exact ⟨i + 1, by omega, rfl, by go_num, rfl, HS.out⟩
      · have hie : i = s.size := by omega
        have HPt : Hid (a1L s.data.toList = s.data.toList ∧ flL s.data.toList = []) := none_parts (by rw [size_list, ← hie]; exact HN.out)
        clear hie
        go_wp2_with fail
        go_meet
        case rel => exact ⟨s, ⟨#[]⟩, false, rfl, HPt.out.1.symm, by rw [HPt.out.2]; rfl, by rw [HPt.out.2]; rfl, by rw [HPt.out.2]; rfl, HT.out⟩
  case rest =>
    clear HT
    obtain ⟨s1, f, on, hs0, hs1, hf, hon, hfo, ht1⟩ := hcut
    subst hs0
    have HT1 : Hid (Two w ⟨#[]⟩ f 0 0 0 on wc) := ht1
    have HS1 : Hid (s1.data.toList = a1L s.data.toList) := hs1
    have HFF : Hid (f.data.toList = (flL s.data.toList).drop 1 ∧ on = onV (flL s.data.toList) ∧ flagOk (flL s.data.toList) = true) := ⟨hf, hon, hfo⟩
    have hs1z : s1.size ≤ 20000 := by
      rw [← size_list, hs1]
      have := ahead_len s.data.toList [43, 45]
      rw [size_list] at this
      exact Nat.le_trans this hs
    clear ht1 hs1 hf hon hfo
    go_wp2_with fail
    refine (cut_any _ _ hs1z).mono ?_
    rintro e w2 ⟨⟨a2, st, rfl, ha2, hst⟩, k2⟩
    rw [HS1.out] at ha2 hst ⊢
    have HA2 : Hid (a2.data.toList = a2L s.data.toList) := ha2
    have HST : Hid (st.data.toList = (slL s.data.toList).drop 1) := hst
    have HT2 : Hid (Two w ⟨#[]⟩ f 0 0 0 on w2) := HT1.out.keep k2
    have hstz : st.size ≤ 20000 := by
      rw [← size_list, hst, List.length_drop]
      have := tail_len (a1L s.data.toList) [58]
      have := ahead_len s.data.toList [43, 45]
      rw [size_list] at this
      unfold a1L at *
      omega
    have ha2z : a2.size ≤ 20000 := by
      rw [← size_list, ha2]
      have := ahead_len (a1L s.data.toList) [58]
      have := ahead_len s.data.toList [43, 45]
      rw [size_list] at this
      unfold a1L at *
      omega
    generalize hbb : decide (tailOf (a1L s.data.toList) [58] ≠ []) = bb
    have HBB : Hid (decide (slL s.data.toList ≠ []) = bb) := hbb
    clear ha2 hst k2 hbb HT1
    go_upto_if 59 with fail
    go_cut [] from 53 to 76 (fun wc => ∃ sl : Int, sl = slotV (slL s.data.toList) ∧ slotOk (slL s.data.toList) = true ∧ Two w ⟨#[]⟩ f 0 0 sl on wc)
    case first =>
      cases bb
      · have hsn : slL s.data.toList = [] := by have := HBB.out; simpa using this
        have HSN : Hid (slL s.data.toList = []) := hsn
        clear hsn
        go_wp2_with fail
        go_meet
        case rel => exact ⟨0, by rw [HSN.out]; rfl, by rw [HSN.out]; rfl, HT2.out⟩
      · have hsn : slL s.data.toList ≠ [] := by have := HBB.out; simpa using this
        have HSO : Hid (slotOk (slL s.data.toList) = (numB st.data.toList && decide (numV st.data.toList ≠ 0)) ∧ slotV (slL s.data.toList) = numV st.data.toList) := by
          refine ⟨?_, ?_⟩
          · unfold slotOk; rw [decide_eq_false hsn, HST.out]; rfl
          · unfold slotV; rw [if_neg hsn, HST.out]
        clear hsn
        go_wp2_with fail
        refine (whole_any _ _ (HE.out.keep HT2.out.2.2) hstz).mono ?_
        rintro e w3 ⟨k, rfl, hk, k3⟩
        have HT3 : Hid (Two w ⟨#[]⟩ f 0 0 0 on w3) := HT2.out.keep k3
        clear k3
        cases hn : numB st.data.toList
        · have HP : Hid (prsE s.data.toList = 1) := prs_one HL.out (by unfold readOk; rw [HFF.out.2.2, HSO.out.1, hn]; rfl)
          clear hn hk
          go_wp2_with fail
          refine (bad_any _).mono ?_
          rintro e w9 ⟨rfl, k9⟩
          have T9 := HT3.out.keep k9
          obtain ⟨hcR, hzR, _⟩ := T9.2.1.facts
          obtain ⟨hW, hKW⟩ := zero_last T9
          have HW : Hid (AtomAt w.heap.size ⟨#[]⟩ 0 0 0 ⟨#[]⟩ false ((((((w9.setCell ⟨w.heap.size, 0, none⟩ (.string ⟨#[]⟩)).setCell ⟨w.heap.size, 1, none⟩ (.int .i64 0)).setCell ⟨w.heap.size, 2, none⟩ (.int .i64 0)).setCell ⟨w.heap.size, 3, none⟩ (.int .i64 0)).setCell ⟨w.heap.size, 4, none⟩ (.string ⟨#[]⟩)).setCell ⟨w.heap.size, 5, none⟩ (.bool false))) := hW
          have KW : Hid (Keep w ((((((w9.setCell ⟨w.heap.size, 0, none⟩ (.string ⟨#[]⟩)).setCell ⟨w.heap.size, 1, none⟩ (.int .i64 0)).setCell ⟨w.heap.size, 2, none⟩ (.int .i64 0)).setCell ⟨w.heap.size, 3, none⟩ (.int .i64 0)).setCell ⟨w.heap.size, 4, none⟩ (.string ⟨#[]⟩)).setCell ⟨w.heap.size, 5, none⟩ (.bool false))) := hKW
          clear hW hKW T9
          go_wp2_with fail
          generalize ((((((w9.setCell ⟨w.heap.size, 0, none⟩ (.string ⟨#[]⟩)).setCell ⟨w.heap.size, 1, none⟩ (.int .i64 0)).setCell ⟨w.heap.size, 2, none⟩ (.int .i64 0)).setCell ⟨w.heap.size, 3, none⟩ (.int .i64 0)).setCell ⟨w.heap.size, 4, none⟩ (.string ⟨#[]⟩)).setCell ⟨w.heap.size, 5, none⟩ (.bool false)) = W at HW KW ⊢
          obtain ⟨hcW, _, _⟩ := HW.out.facts
          exact bodyPost_ret (v := .tuple #[.agg #[.string ⟨#[]⟩, .int .i64 0, .int .i64 0, .int .i64 0, .string ⟨#[]⟩, .bool false], .int .i64 1]) (by simp [results, Tryz.results78, go_sem, hcW]) rfl ⟨⟨#[]⟩, ⟨#[]⟩, 0, 0, 0, false, by rw [HP.out], fun e => by (rw [HP.out] at e; cases e), fun _ => ⟨rfl, rfl, rfl, rfl, rfl, rfl⟩, KW.out⟩
        · have hk' := hk hn
          clear hk
          by_cases hz : k = 0
          · have HP : Hid (prsE s.data.toList = 1) := prs_one HL.out (by unfold readOk; rw [HFF.out.2.2, HSO.out.1, hn, ← hk', hz]; rfl)
            have hz' : (k == 0) = true := by simp [hz]
            clear hn hk' hz
            go_wp2_with fail
            refine (bad_any _).mono ?_
            rintro e w9 ⟨rfl, k9⟩
            have T9 := HT3.out.keep k9
            obtain ⟨hcR, hzR, _⟩ := T9.2.1.facts
            obtain ⟨hW, hKW⟩ := zero_last T9
            have HW : Hid (AtomAt w.heap.size ⟨#[]⟩ 0 0 0 ⟨#[]⟩ false ((((((w9.setCell ⟨w.heap.size, 0, none⟩ (.string ⟨#[]⟩)).setCell ⟨w.heap.size, 1, none⟩ (.int .i64 0)).setCell ⟨w.heap.size, 2, none⟩ (.int .i64 0)).setCell ⟨w.heap.size, 3, none⟩ (.int .i64 0)).setCell ⟨w.heap.size, 4, none⟩ (.string ⟨#[]⟩)).setCell ⟨w.heap.size, 5, none⟩ (.bool false))) := hW
            have KW : Hid (Keep w ((((((w9.setCell ⟨w.heap.size, 0, none⟩ (.string ⟨#[]⟩)).setCell ⟨w.heap.size, 1, none⟩ (.int .i64 0)).setCell ⟨w.heap.size, 2, none⟩ (.int .i64 0)).setCell ⟨w.heap.size, 3, none⟩ (.int .i64 0)).setCell ⟨w.heap.size, 4, none⟩ (.string ⟨#[]⟩)).setCell ⟨w.heap.size, 5, none⟩ (.bool false))) := hKW
            clear hW hKW T9
            go_wp2_with fail
            generalize ((((((w9.setCell ⟨w.heap.size, 0, none⟩ (.string ⟨#[]⟩)).setCell ⟨w.heap.size, 1, none⟩ (.int .i64 0)).setCell ⟨w.heap.size, 2, none⟩ (.int .i64 0)).setCell ⟨w.heap.size, 3, none⟩ (.int .i64 0)).setCell ⟨w.heap.size, 4, none⟩ (.string ⟨#[]⟩)).setCell ⟨w.heap.size, 5, none⟩ (.bool false)) = W at HW KW ⊢
            obtain ⟨hcW, _, _⟩ := HW.out.facts
            exact bodyPost_ret (v := .tuple #[.agg #[.string ⟨#[]⟩, .int .i64 0, .int .i64 0, .int .i64 0, .string ⟨#[]⟩, .bool false], .int .i64 1]) (by simp [results, Tryz.results78, go_sem, hcW]) rfl ⟨⟨#[]⟩, ⟨#[]⟩, 0, 0, 0, false, by rw [HP.out], fun e => by (rw [HP.out] at e; cases e), fun _ => ⟨rfl, rfl, rfl, rfl, rfl, rfl⟩, KW.out⟩
          · have HK : Hid (k = slotV (slL s.data.toList) ∧ slotOk (slL s.data.toList) = true) := by
              refine ⟨by rw [HSO.out.2]; exact hk', ?_⟩
              rw [HSO.out.1, hn, ← hk', decide_eq_true (p := k ≠ 0) hz]; rfl
            have hz' : (k == 0) = false := by simp [hz]
            clear hn hk' hz
            obtain ⟨hcB, hzB, _⟩ := HT3.out.1.facts
            go_wp2_with fail
            go_meet
            case rel => exact ⟨k, HK.out.1, HK.out.2, two_b HT3.out 3 _ (heap_set HT3.out.1 3 _)⟩
    case rest =>
      clear HT2 HBB
      obtain ⟨sl, hsl, hslo, ht3⟩ := hcut
      have HT : Hid (Two w ⟨#[]⟩ f 0 0 sl on wc) := ht3
      have HSL : Hid (sl = slotV (slL s.data.toList) ∧ slotOk (slL s.data.toList) = true) := ⟨hsl, hslo⟩
      clear hsl hslo ht3
      go_upto_block 2 with fail
      go_cut [0] from 79 to 133 (fun s0 wc => ∃ (nm : ByteArray) (op v : Int), s0 = .string nm ∧ nm.data.toList = nmL s.data.toList ∧ op = opV (veL s.data.toList) ∧ v = verV (veL s.data.toList) ∧ verOk (veL s.data.toList) = true ∧ Two w ⟨#[]⟩ f op v sl on wc)
      case first =>
        go_wp2_with fail
        go_loopg [0, 79] a2.size (fun g s0 s79 wx => ∃ i : Nat, i + g = a2.size ∧ s0 = .string a2 ∧ s79 = .int .i64 i ∧ wx = wc ∧ Lib.NoAny a2.data.toList [61, 60, 62] i)
        case atStart => exact ⟨0, by omega, rfl, rfl, rfl, Lib.NoAny.zero _ _⟩
        case round =>
          obtain ⟨i, hig, rfl, rfl, rfl, hno⟩ := hrel
          have HN : Hid (Lib.NoAny a2.data.toList [61, 60, 62] i) := hno
          clear hno
          by_cases hi : i < a2.size
          · have HX : Hid (a2.data.toList[i]? = some a2[i]) := Lib.data_getElem? a2 i hi
            obtain ⟨hcB, hzB, _⟩ := HT.out.1.facts
            have q1 : (0 : Int) ≤ (i : Int) + 1 := by omega
            have q2 : (i : Int) + 1 ≤ (a2.size : Int) := by omega
            have q3 : (i : Int) ≤ (a2.size : Int) := by omega
            by_cases hx1 : a2[i] = 61
            · have hxv := hx1
              clear hx1
              have hx : a2[i] = 61 := hxv
              have HPt : Hid (nmL s.data.toList = a2.data.toList.take i ∧ veL s.data.toList = 61 :: a2.data.toList.drop (i + 1)) := by
                have h1 := hit_parts HN.out HX.out (by rw [hx]; decide)
                rw [drop_cons a2 i hi, hx, HA2.out] at h1
                rw [HA2.out]
                exact h1
              have HV : Hid (verOk (veL s.data.toList) = numB (a2.data.toList.drop (i + 1)) ∧ opV (veL s.data.toList) = 1 ∧ verV (veL s.data.toList) = numV (a2.data.toList.drop (i + 1))) := by rw [HPt.out.2]; exact ver_61 _
              have HR : Hid ((a2.extract (i + 1) a2.size).data.toList = a2.data.toList.drop (i + 1)) := Lib.extract_to_end _ _
              have hrz : (a2.extract (i + 1) a2.size).size ≤ 20000 := by rw [← size_list, Lib.extract_to_end, List.length_drop, size_list]; omega
              have b1 : (((a2[i]).toNat : Int) != 61) = false := by rw [hx]; decide
              have b2 : (((a2[i]).toNat : Int) != 60) = true := by rw [hx]; decide
              have b3 : (((a2[i]).toNat : Int) != 62) = true := by rw [hx]; decide
              have b4 : (((a2[i]).toNat : Int) == 61) = true := by rw [hx]; decide
              have b5 : (((a2[i]).toNat : Int) == 60) = false := by rw [hx]; decide
              have HT4 : Hid (Two w ⟨#[]⟩ f 1 0 sl on (wr.setCell ⟨w.heap.size + 1, 1, none⟩ (.int .i64 1))) := two_b HT.out 1 _ (heap_set HT.out.1 1 _)
              clear hx hxv
              go_wp2_with fail
              refine (whole_any (a2.extract (i + 1) a2.size) _ (HE.out.keep HT4.out.2.2) hrz).mono ?_
              rintro e w5 ⟨k, rfl, hk, k5⟩
              have HT5 : Hid (Two w ⟨#[]⟩ f 1 0 sl on w5) := HT4.out.keep k5
              rw [HR.out] at hk ⊢
              clear k5
              cases hn : numB (a2.data.toList.drop (i + 1))
              · have HP : Hid (prsE s.data.toList = 1) := prs_one HL.out (by unfold readOk; rw [HFF.out.2.2, HSL.out.2, HV.out.1, hn]; rfl)
                clear hn hk
                go_wp2_with fail
                refine (bad_any _).mono ?_
                rintro e w9 ⟨rfl, k9⟩
                have T9 := HT5.out.keep k9
                obtain ⟨hcR, hzR, _⟩ := T9.2.1.facts
                obtain ⟨hW, hKW⟩ := zero_last T9
                have HW : Hid (AtomAt w.heap.size ⟨#[]⟩ 0 0 0 ⟨#[]⟩ false ((((((w9.setCell ⟨w.heap.size, 0, none⟩ (.string ⟨#[]⟩)).setCell ⟨w.heap.size, 1, none⟩ (.int .i64 0)).setCell ⟨w.heap.size, 2, none⟩ (.int .i64 0)).setCell ⟨w.heap.size, 3, none⟩ (.int .i64 0)).setCell ⟨w.heap.size, 4, none⟩ (.string ⟨#[]⟩)).setCell ⟨w.heap.size, 5, none⟩ (.bool false))) := hW
                have KW : Hid (Keep w ((((((w9.setCell ⟨w.heap.size, 0, none⟩ (.string ⟨#[]⟩)).setCell ⟨w.heap.size, 1, none⟩ (.int .i64 0)).setCell ⟨w.heap.size, 2, none⟩ (.int .i64 0)).setCell ⟨w.heap.size, 3, none⟩ (.int .i64 0)).setCell ⟨w.heap.size, 4, none⟩ (.string ⟨#[]⟩)).setCell ⟨w.heap.size, 5, none⟩ (.bool false))) := hKW
                clear hW hKW T9
                go_wp2_with fail
                generalize ((((((w9.setCell ⟨w.heap.size, 0, none⟩ (.string ⟨#[]⟩)).setCell ⟨w.heap.size, 1, none⟩ (.int .i64 0)).setCell ⟨w.heap.size, 2, none⟩ (.int .i64 0)).setCell ⟨w.heap.size, 3, none⟩ (.int .i64 0)).setCell ⟨w.heap.size, 4, none⟩ (.string ⟨#[]⟩)).setCell ⟨w.heap.size, 5, none⟩ (.bool false)) = W at HW KW ⊢
                obtain ⟨hcW, _, _⟩ := HW.out.facts
                exact bodyPost_ret (v := .tuple #[.agg #[.string ⟨#[]⟩, .int .i64 0, .int .i64 0, .int .i64 0, .string ⟨#[]⟩, .bool false], .int .i64 1]) (by simp [results, Tryz.results78, go_sem, hcW]) rfl ⟨⟨#[]⟩, ⟨#[]⟩, 0, 0, 0, false, by rw [HP.out], fun e => by (rw [HP.out] at e; cases e), fun _ => ⟨rfl, rfl, rfl, rfl, rfl, rfl⟩, KW.out⟩
              · have HK : Hid (k = verV (veL s.data.toList) ∧ verOk (veL s.data.toList) = true) := ⟨by rw [HV.out.2.2]; exact hk hn, by rw [HV.out.1]; exact hn⟩
                clear hn hk
                have HT6 : Hid (Two w ⟨#[]⟩ f 1 k sl on (w5.setCell ⟨w.heap.size + 1, 2, none⟩ (.int .i64 k)).drew) := Two.drew (two_b HT5.out 2 _ (heap_set HT5.out.1 2 _))
                obtain ⟨hcB5, hzB5, _⟩ := HT5.out.1.facts
                go_wp2_with fail
                go_region
                go_wp2_with fail
                go_meet
                case rel => exact ⟨a2.extract 0 i, 1, k, rfl, by rw [HPt.out.1, Lib.extract_data]; simp, HV.out.2.1.symm, HK.out.1, HK.out.2, HT6.out⟩
            · by_cases hx2 : a2[i] = 60
              · have hxv := hx2
                clear hx1 hx2
                have hx : a2[i] = 60 := hxv
                have HPt : Hid (nmL s.data.toList = a2.data.toList.take i ∧ veL s.data.toList = 60 :: a2.data.toList.drop (i + 1)) := by
                  have h1 := hit_parts HN.out HX.out (by rw [hx]; decide)
                  rw [drop_cons a2 i hi, hx, HA2.out] at h1
                  rw [HA2.out]
                  exact h1
                have HV : Hid (verOk (veL s.data.toList) = numB (a2.data.toList.drop (i + 1)) ∧ opV (veL s.data.toList) = 3 ∧ verV (veL s.data.toList) = numV (a2.data.toList.drop (i + 1))) := by rw [HPt.out.2]; exact ver_60 _
                have HR : Hid ((a2.extract (i + 1) a2.size).data.toList = a2.data.toList.drop (i + 1)) := Lib.extract_to_end _ _
                have hrz : (a2.extract (i + 1) a2.size).size ≤ 20000 := by rw [← size_list, Lib.extract_to_end, List.length_drop, size_list]; omega
                have b1 : (((a2[i]).toNat : Int) != 61) = true := by rw [hx]; decide
                have b2 : (((a2[i]).toNat : Int) != 60) = false := by rw [hx]; decide
                have b3 : (((a2[i]).toNat : Int) != 62) = true := by rw [hx]; decide
                have b4 : (((a2[i]).toNat : Int) == 61) = false := by rw [hx]; decide
                have b5 : (((a2[i]).toNat : Int) == 60) = true := by rw [hx]; decide
                have HT4 : Hid (Two w ⟨#[]⟩ f 3 0 sl on (wr.setCell ⟨w.heap.size + 1, 1, none⟩ (.int .i64 3))) := two_b HT.out 1 _ (heap_set HT.out.1 1 _)
                clear hx hxv
                go_wp2_with fail
                refine (whole_any (a2.extract (i + 1) a2.size) _ (HE.out.keep HT4.out.2.2) hrz).mono ?_
                rintro e w5 ⟨k, rfl, hk, k5⟩
                have HT5 : Hid (Two w ⟨#[]⟩ f 3 0 sl on w5) := HT4.out.keep k5
                rw [HR.out] at hk ⊢
                clear k5
                cases hn : numB (a2.data.toList.drop (i + 1))
                · have HP : Hid (prsE s.data.toList = 1) := prs_one HL.out (by unfold readOk; rw [HFF.out.2.2, HSL.out.2, HV.out.1, hn]; rfl)
                  clear hn hk
                  go_wp2_with fail
                  refine (bad_any _).mono ?_
                  rintro e w9 ⟨rfl, k9⟩
                  have T9 := HT5.out.keep k9
                  obtain ⟨hcR, hzR, _⟩ := T9.2.1.facts
                  obtain ⟨hW, hKW⟩ := zero_last T9
                  have HW : Hid (AtomAt w.heap.size ⟨#[]⟩ 0 0 0 ⟨#[]⟩ false ((((((w9.setCell ⟨w.heap.size, 0, none⟩ (.string ⟨#[]⟩)).setCell ⟨w.heap.size, 1, none⟩ (.int .i64 0)).setCell ⟨w.heap.size, 2, none⟩ (.int .i64 0)).setCell ⟨w.heap.size, 3, none⟩ (.int .i64 0)).setCell ⟨w.heap.size, 4, none⟩ (.string ⟨#[]⟩)).setCell ⟨w.heap.size, 5, none⟩ (.bool false))) := hW
                  have KW : Hid (Keep w ((((((w9.setCell ⟨w.heap.size, 0, none⟩ (.string ⟨#[]⟩)).setCell ⟨w.heap.size, 1, none⟩ (.int .i64 0)).setCell ⟨w.heap.size, 2, none⟩ (.int .i64 0)).setCell ⟨w.heap.size, 3, none⟩ (.int .i64 0)).setCell ⟨w.heap.size, 4, none⟩ (.string ⟨#[]⟩)).setCell ⟨w.heap.size, 5, none⟩ (.bool false))) := hKW
                  clear hW hKW T9
                  go_wp2_with fail
                  generalize ((((((w9.setCell ⟨w.heap.size, 0, none⟩ (.string ⟨#[]⟩)).setCell ⟨w.heap.size, 1, none⟩ (.int .i64 0)).setCell ⟨w.heap.size, 2, none⟩ (.int .i64 0)).setCell ⟨w.heap.size, 3, none⟩ (.int .i64 0)).setCell ⟨w.heap.size, 4, none⟩ (.string ⟨#[]⟩)).setCell ⟨w.heap.size, 5, none⟩ (.bool false)) = W at HW KW ⊢
                  obtain ⟨hcW, _, _⟩ := HW.out.facts
                  exact bodyPost_ret (v := .tuple #[.agg #[.string ⟨#[]⟩, .int .i64 0, .int .i64 0, .int .i64 0, .string ⟨#[]⟩, .bool false], .int .i64 1]) (by simp [results, Tryz.results78, go_sem, hcW]) rfl ⟨⟨#[]⟩, ⟨#[]⟩, 0, 0, 0, false, by rw [HP.out], fun e => by (rw [HP.out] at e; cases e), fun _ => ⟨rfl, rfl, rfl, rfl, rfl, rfl⟩, KW.out⟩
                · have HK : Hid (k = verV (veL s.data.toList) ∧ verOk (veL s.data.toList) = true) := ⟨by rw [HV.out.2.2]; exact hk hn, by rw [HV.out.1]; exact hn⟩
                  clear hn hk
                  have HT6 : Hid (Two w ⟨#[]⟩ f 3 k sl on (w5.setCell ⟨w.heap.size + 1, 2, none⟩ (.int .i64 k)).drew) := Two.drew (two_b HT5.out 2 _ (heap_set HT5.out.1 2 _))
                  obtain ⟨hcB5, hzB5, _⟩ := HT5.out.1.facts
                  go_wp2_with fail
                  go_region
                  go_wp2_with fail
                  go_meet
                  case rel => exact ⟨a2.extract 0 i, 3, k, rfl, by rw [HPt.out.1, Lib.extract_data]; simp, HV.out.2.1.symm, HK.out.1, HK.out.2, HT6.out⟩
              · by_cases hx3 : a2[i] = 62
                · have hxv := hx3
                  clear hx1 hx2 hx3
                  have hx : a2[i] = 62 := hxv
                  have HPt : Hid (nmL s.data.toList = a2.data.toList.take i ∧ veL s.data.toList = 62 :: a2.data.toList.drop (i + 1)) := by
                    have h1 := hit_parts HN.out HX.out (by rw [hx]; decide)
                    rw [drop_cons a2 i hi, hx, HA2.out] at h1
                    rw [HA2.out]
                    exact h1
                  have HR0 : Hid ((a2.extract (i + 1) a2.size).data.toList = a2.data.toList.drop (i + 1)) := Lib.extract_to_end _ _
                  have hsz : (a2.extract (i + 1) a2.size).size ≤ 20000 := by rw [← size_list, Lib.extract_to_end, List.length_drop, size_list]; omega
                  have b1 : (((a2[i]).toNat : Int) != 61) = true := by rw [hx]; decide
                  have b2 : (((a2[i]).toNat : Int) != 60) = true := by rw [hx]; decide
                  have b3 : (((a2[i]).toNat : Int) != 62) = false := by rw [hx]; decide
                  have b4 : (((a2[i]).toNat : Int) == 61) = false := by rw [hx]; decide
                  have b5 : (((a2[i]).toNat : Int) == 60) = false := by rw [hx]; decide
                  clear hx hxv
                  go_wp2_with fail
                  generalize hrest : a2.extract (i + 1) a2.size = rest at HR0 hsz ⊢
                  clear hrest
                  refine (Tryz.strings_HasPrefix _ _ _).mono ?_
                  rintro e w4 ⟨rfl, hw4⟩
                  rw [hw4]
                  clear hw4
                  cases hp : Lib.hasPrefix rest.data.toList [61]
                  · have HP : Hid (prsE s.data.toList = 1) := prs_one HL.out (by unfold readOk; rw [HFF.out.2.2, HSL.out.2, HPt.out.2, ver_bad _ (by rw [← HR0.out]; exact hp)]; rfl)
                    clear hp
                    go_wp2_with fail
                    refine (bad_any _).mono ?_
                    rintro e w9 ⟨rfl, k9⟩
                    have T9 := HT.out.keep k9
                    obtain ⟨hcR, hzR, _⟩ := T9.2.1.facts
                    obtain ⟨hW, hKW⟩ := zero_last T9
                    have HW : Hid (AtomAt w.heap.size ⟨#[]⟩ 0 0 0 ⟨#[]⟩ false ((((((w9.setCell ⟨w.heap.size, 0, none⟩ (.string ⟨#[]⟩)).setCell ⟨w.heap.size, 1, none⟩ (.int .i64 0)).setCell ⟨w.heap.size, 2, none⟩ (.int .i64 0)).setCell ⟨w.heap.size, 3, none⟩ (.int .i64 0)).setCell ⟨w.heap.size, 4, none⟩ (.string ⟨#[]⟩)).setCell ⟨w.heap.size, 5, none⟩ (.bool false))) := hW
                    have KW : Hid (Keep w ((((((w9.setCell ⟨w.heap.size, 0, none⟩ (.string ⟨#[]⟩)).setCell ⟨w.heap.size, 1, none⟩ (.int .i64 0)).setCell ⟨w.heap.size, 2, none⟩ (.int .i64 0)).setCell ⟨w.heap.size, 3, none⟩ (.int .i64 0)).setCell ⟨w.heap.size, 4, none⟩ (.string ⟨#[]⟩)).setCell ⟨w.heap.size, 5, none⟩ (.bool false))) := hKW
                    clear hW hKW T9
                    go_wp2_with fail
                    generalize ((((((w9.setCell ⟨w.heap.size, 0, none⟩ (.string ⟨#[]⟩)).setCell ⟨w.heap.size, 1, none⟩ (.int .i64 0)).setCell ⟨w.heap.size, 2, none⟩ (.int .i64 0)).setCell ⟨w.heap.size, 3, none⟩ (.int .i64 0)).setCell ⟨w.heap.size, 4, none⟩ (.string ⟨#[]⟩)).setCell ⟨w.heap.size, 5, none⟩ (.bool false)) = W at HW KW ⊢
                    obtain ⟨hcW, _, _⟩ := HW.out.facts
                    exact bodyPost_ret (v := .tuple #[.agg #[.string ⟨#[]⟩, .int .i64 0, .int .i64 0, .int .i64 0, .string ⟨#[]⟩, .bool false], .int .i64 1]) (by simp [results, Tryz.results78, go_sem, hcW]) rfl ⟨⟨#[]⟩, ⟨#[]⟩, 0, 0, 0, false, by rw [HP.out], fun e => by (rw [HP.out] at e; cases e), fun _ => ⟨rfl, rfl, rfl, rfl, rfl, rfl⟩, KW.out⟩
                  · have HV : Hid (verOk (veL s.data.toList) = numB (rest.data.toList.drop 1) ∧ opV (veL s.data.toList) = 2 ∧ verV (veL s.data.toList) = numV (rest.data.toList.drop 1)) := by rw [HPt.out.2, ← HR0.out]; exact ver_62 _ hp
                    have HR : Hid ((rest.extract 1 rest.size).data.toList = rest.data.toList.drop 1) := Lib.extract_to_end _ _
                    have hrz : (rest.extract 1 rest.size).size ≤ 20000 := by rw [← size_list, Lib.extract_to_end, List.length_drop, size_list]; omega
                    have hp1 : (1 : Int) ≤ (rest.size : Int) := by
                      have h0 : rest.data.toList ≠ [] := fun e => by rw [e] at hp; cases hp
                      have := List.length_pos_iff.2 h0
                      rw [size_list] at this
                      omega
                    have HT4 : Hid (Two w ⟨#[]⟩ f 2 0 sl on (wr.setCell ⟨w.heap.size + 1, 1, none⟩ (.int .i64 2)).drew) := Two.drew (two_b HT.out 1 _ (heap_set HT.out.1 1 _))
                    clear hp
                    go_wp2_with fail
                    go_region
                    go_wp2_with fail
                    refine (whole_any (rest.extract 1 rest.size) _ (HE.out.keep HT4.out.2.2) hrz).mono ?_
                    rintro e w5 ⟨k, rfl, hk, k5⟩
                    have HT5 : Hid (Two w ⟨#[]⟩ f 2 0 sl on w5) := HT4.out.keep k5
                    rw [HR.out] at hk ⊢
                    clear k5
                    cases hn : numB (rest.data.toList.drop 1)
                    · have HP : Hid (prsE s.data.toList = 1) := prs_one HL.out (by unfold readOk; rw [HFF.out.2.2, HSL.out.2, HV.out.1, hn]; rfl)
                      clear hn hk
                      go_wp2_with fail
                      refine (bad_any _).mono ?_
                      rintro e w9 ⟨rfl, k9⟩
                      have T9 := HT5.out.keep k9
                      obtain ⟨hcR, hzR, _⟩ := T9.2.1.facts
                      obtain ⟨hW, hKW⟩ := zero_last T9
                      have HW : Hid (AtomAt w.heap.size ⟨#[]⟩ 0 0 0 ⟨#[]⟩ false ((((((w9.setCell ⟨w.heap.size, 0, none⟩ (.string ⟨#[]⟩)).setCell ⟨w.heap.size, 1, none⟩ (.int .i64 0)).setCell ⟨w.heap.size, 2, none⟩ (.int .i64 0)).setCell ⟨w.heap.size, 3, none⟩ (.int .i64 0)).setCell ⟨w.heap.size, 4, none⟩ (.string ⟨#[]⟩)).setCell ⟨w.heap.size, 5, none⟩ (.bool false))) := hW
                      have KW : Hid (Keep w ((((((w9.setCell ⟨w.heap.size, 0, none⟩ (.string ⟨#[]⟩)).setCell ⟨w.heap.size, 1, none⟩ (.int .i64 0)).setCell ⟨w.heap.size, 2, none⟩ (.int .i64 0)).setCell ⟨w.heap.size, 3, none⟩ (.int .i64 0)).setCell ⟨w.heap.size, 4, none⟩ (.string ⟨#[]⟩)).setCell ⟨w.heap.size, 5, none⟩ (.bool false))) := hKW
                      clear hW hKW T9
                      go_wp2_with fail
                      generalize ((((((w9.setCell ⟨w.heap.size, 0, none⟩ (.string ⟨#[]⟩)).setCell ⟨w.heap.size, 1, none⟩ (.int .i64 0)).setCell ⟨w.heap.size, 2, none⟩ (.int .i64 0)).setCell ⟨w.heap.size, 3, none⟩ (.int .i64 0)).setCell ⟨w.heap.size, 4, none⟩ (.string ⟨#[]⟩)).setCell ⟨w.heap.size, 5, none⟩ (.bool false)) = W at HW KW ⊢
                      obtain ⟨hcW, _, _⟩ := HW.out.facts
                      exact bodyPost_ret (v := .tuple #[.agg #[.string ⟨#[]⟩, .int .i64 0, .int .i64 0, .int .i64 0, .string ⟨#[]⟩, .bool false], .int .i64 1]) (by simp [results, Tryz.results78, go_sem, hcW]) rfl ⟨⟨#[]⟩, ⟨#[]⟩, 0, 0, 0, false, by rw [HP.out], fun e => by (rw [HP.out] at e; cases e), fun _ => ⟨rfl, rfl, rfl, rfl, rfl, rfl⟩, KW.out⟩
                    · have HK : Hid (k = verV (veL s.data.toList) ∧ verOk (veL s.data.toList) = true) := ⟨by rw [HV.out.2.2]; exact hk hn, by rw [HV.out.1]; exact hn⟩
                      clear hn hk
                      have HT6 : Hid (Two w ⟨#[]⟩ f 2 k sl on (w5.setCell ⟨w.heap.size + 1, 2, none⟩ (.int .i64 k)).drew) := Two.drew (two_b HT5.out 2 _ (heap_set HT5.out.1 2 _))
                      obtain ⟨hcB5, hzB5, _⟩ := HT5.out.1.facts
                      go_wp2_with fail
                      go_region
                      go_wp2_with fail
                      go_meet
                      case rel => exact ⟨a2.extract 0 i, 2, k, rfl, by rw [HPt.out.1, Lib.extract_data]; simp, HV.out.2.1.symm, HK.out.1, HK.out.2, HT6.out⟩
                · have ne : ∀ d : UInt8, ¬ a2[i] = d → (((a2[i]).toNat : Int) != (d.toNat : Int)) = true := fun d hd => by
                    rw [bne_iff_ne]; intro e; exact hd (UInt8.toNat_inj.1 (by omega))
                  have b1 : (((a2[i]).toNat : Int) != 61) = true := ne 61 hx1
                  have b2 : (((a2[i]).toNat : Int) != 60) = true := ne 60 hx2
                  have b3 : (((a2[i]).toNat : Int) != 62) = true := ne 62 hx3
                  have HS : Hid (Lib.NoAny a2.data.toList [61, 60, 62] (i + 1)) := HN.out.succ HX.out (by simp [hx1, hx2, hx3])
                  clear hx1 hx2 hx3 ne
                  go_wp2_with fail
                  go_roundg (gk - 1)
                  case measure => omega
                  case rel => exact ⟨i + 1, by omega, rfl, by go_num, rfl, HS.out⟩
          · have hie : i = a2.size := by omega
            have HPt : Hid (nmL s.data.toList = a2.data.toList ∧ veL s.data.toList = []) := by
              have := none_parts (l := a2.data.toList) (m := [61, 60, 62]) (by rw [size_list, ← hie]; exact HN.out)
              rw [HA2.out] at this ⊢
              exact this
            clear hie
            go_wp2_with fail
            go_meet
            case rel => exact ⟨a2, 0, 0, rfl, HPt.out.1.symm, by rw [HPt.out.2]; rfl, by rw [HPt.out.2]; rfl, by rw [HPt.out.2]; rfl, HT.out⟩
      case rest =>
        clear HT
        obtain ⟨nm, op, v, hs0, hnm, hop, hv, hvo, ht4⟩ := hcut
        subst hs0
        have HT4 : Hid (Two w ⟨#[]⟩ f op v sl on wc) := ht4
        have HNM : Hid (nm.data.toList = nmL s.data.toList ∧ op = opV (veL s.data.toList) ∧ v = verV (veL s.data.toList)) := ⟨hnm, hop, hv⟩
        have HP : Hid (prsE s.data.toList = chk nm.data.toList op v sl f.data.toList on) := by
          show _ = _
          have ok : readOk s.data.toList = true := by unfold readOk; rw [HFF.out.2.2, HSL.out.2, hvo]; rfl
          unfold prsE
          rw [if_neg HL.out, if_neg (by rw [ok]; decide), hnm, hop, hv, HSL.out.1, HFF.out.1, HFF.out.2.1]
        have T5 : Hid (Two w nm f op v sl on (wc.setCell ⟨w.heap.size + 1, 0, none⟩ (.string nm))) := two_b ht4 0 _ (heap_set ht4.1 0 _)
        obtain ⟨hcB, hzB, _⟩ := ht4.1.facts
        clear ht4 hnm hop hv hvo
        go_wp2_with fail
        generalize wc.setCell ⟨w.heap.size + 1, 0, none⟩ (.string nm) = W5 at T5 ⊢
        refine (refCheck_any _ _ _ _ _ _ _).mono ?_
        rintro e w6 ⟨rfl, k6⟩
        have T6 : Hid (Two w nm f op v sl on w6) := T5.out.keep k6
        clear hcB hzB k6
        obtain ⟨hcB, hzB, _⟩ := T6.out.1.facts
        obtain ⟨hcR, hzR, _⟩ := T6.out.2.1.facts
        generalize chk nm.data.toList op v sl f.data.toList on = c at HP ⊢
        by_cases hc0 : c = 0
        · subst hc0
          obtain ⟨hW, hKW⟩ := full_last T6.out
          have HW : Hid (AtomAt w.heap.size nm op v sl f on ((((((w6.setCell ⟨w.heap.size, 0, none⟩ (.string nm)).setCell ⟨w.heap.size, 1, none⟩ (.int .i64 op)).setCell ⟨w.heap.size, 2, none⟩ (.int .i64 v)).setCell ⟨w.heap.size, 3, none⟩ (.int .i64 sl)).setCell ⟨w.heap.size, 4, none⟩ (.string f)).setCell ⟨w.heap.size, 5, none⟩ (.bool on))) := hW
          have KW : Hid (Keep w ((((((w6.setCell ⟨w.heap.size, 0, none⟩ (.string nm)).setCell ⟨w.heap.size, 1, none⟩ (.int .i64 op)).setCell ⟨w.heap.size, 2, none⟩ (.int .i64 v)).setCell ⟨w.heap.size, 3, none⟩ (.int .i64 sl)).setCell ⟨w.heap.size, 4, none⟩ (.string f)).setCell ⟨w.heap.size, 5, none⟩ (.bool on))) := hKW
          clear hW hKW
          go_wp2_with fail
          generalize ((((((w6.setCell ⟨w.heap.size, 0, none⟩ (.string nm)).setCell ⟨w.heap.size, 1, none⟩ (.int .i64 op)).setCell ⟨w.heap.size, 2, none⟩ (.int .i64 v)).setCell ⟨w.heap.size, 3, none⟩ (.int .i64 sl)).setCell ⟨w.heap.size, 4, none⟩ (.string f)).setCell ⟨w.heap.size, 5, none⟩ (.bool on)) = W at HW KW ⊢
          obtain ⟨hcW, _, _⟩ := HW.out.facts
          exact bodyPost_ret (v := .tuple #[.agg #[.string nm, .int .i64 op, .int .i64 v, .int .i64 sl, .string f, .bool on], .int .i64 0]) (by simp [results, Tryz.results78, go_sem, hcW]) rfl ⟨nm, f, op, v, sl, on, by rw [HP.out], fun _ => ⟨HNM.out.1, HNM.out.2.1, HNM.out.2.2, HSL.out.1, HFF.out.1, HFF.out.2.1⟩, fun e => absurd HP.out e, KW.out⟩
        · have hc' : (c != 0) = true := by simp [hc0]
          have HC0 : Hid (c ≠ 0) := hc0
          clear hc0
          obtain ⟨hW, hKW⟩ := zero_last T6.out
          have HW : Hid (AtomAt w.heap.size ⟨#[]⟩ 0 0 0 ⟨#[]⟩ false ((((((w6.setCell ⟨w.heap.size, 0, none⟩ (.string ⟨#[]⟩)).setCell ⟨w.heap.size, 1, none⟩ (.int .i64 0)).setCell ⟨w.heap.size, 2, none⟩ (.int .i64 0)).setCell ⟨w.heap.size, 3, none⟩ (.int .i64 0)).setCell ⟨w.heap.size, 4, none⟩ (.string ⟨#[]⟩)).setCell ⟨w.heap.size, 5, none⟩ (.bool false))) := hW
          have KW : Hid (Keep w ((((((w6.setCell ⟨w.heap.size, 0, none⟩ (.string ⟨#[]⟩)).setCell ⟨w.heap.size, 1, none⟩ (.int .i64 0)).setCell ⟨w.heap.size, 2, none⟩ (.int .i64 0)).setCell ⟨w.heap.size, 3, none⟩ (.int .i64 0)).setCell ⟨w.heap.size, 4, none⟩ (.string ⟨#[]⟩)).setCell ⟨w.heap.size, 5, none⟩ (.bool false))) := hKW
          clear hW hKW
          go_wp2_with fail
          generalize ((((((w6.setCell ⟨w.heap.size, 0, none⟩ (.string ⟨#[]⟩)).setCell ⟨w.heap.size, 1, none⟩ (.int .i64 0)).setCell ⟨w.heap.size, 2, none⟩ (.int .i64 0)).setCell ⟨w.heap.size, 3, none⟩ (.int .i64 0)).setCell ⟨w.heap.size, 4, none⟩ (.string ⟨#[]⟩)).setCell ⟨w.heap.size, 5, none⟩ (.bool false)) = W at HW KW ⊢
          obtain ⟨hcW, _, _⟩ := HW.out.facts
          exact bodyPost_ret (v := .tuple #[.agg #[.string ⟨#[]⟩, .int .i64 0, .int .i64 0, .int .i64 0, .string ⟨#[]⟩, .bool false], .int .i64 c]) (by simp [results, Tryz.results78, go_sem, hcW]) rfl ⟨⟨#[]⟩, ⟨#[]⟩, 0, 0, 0, false, by rw [HP.out], fun e => absurd (HP.out.symm.trans e) HC0.out, fun _ => ⟨rfl, rfl, rfl, rfl, rfl, rfl⟩, KW.out⟩
end Go.Proofs.YtkckkjpkidcbnaaGreatDoor
