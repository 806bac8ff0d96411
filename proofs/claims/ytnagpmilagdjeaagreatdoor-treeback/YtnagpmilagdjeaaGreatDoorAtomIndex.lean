/- strings.IndexAny, at marks that are ASCII, answers the place of the first byte that is one of them, in every text of at most 20000 bytes, ASCII or not; nothing that was there is changed. -/
import Derived.Test.YtnagpmilagdjeaaGreatDoorAtomNumber
import Derived.Laws.RangeAny
import Derived.Deep.LoopGhost
import Derived.RegionTactic
import Derived.WalkMore
import Derived.Lib.OthersKept
import Derived.BigQuiet
namespace Go.Proofs.YtnagpmilagdjeaaGreatDoor
open Go.RowKit

theorem high_of (s : ByteArray) (l : List UInt8) (hl : s.data.toList = l) (h2 : 2 ≤ l.length) (h4 : l.length ≤ 4) (ha : ∀ x ∈ l, 128 ≤ x.toNat) : 2 ≤ s.size ∧ s.size ≤ 4 ∧ ∀ (j : Nat) (hj : j < s.size), 128 ≤ (s[j]).toNat := by
  have hs : s.size = l.length := by rw [← hl]; simp
  refine ⟨by omega, by omega, fun j hj => ha _ ?_⟩
  rw [← hl]
  show s.data[j] ∈ _
  simp
theorem enc_high (r : Nat) (h : 128 ≤ r) : 2 ≤ (Utf8.encode (r : Int)).size ∧ (Utf8.encode (r : Int)).size ≤ 4 ∧ ∀ (j : Nat) (hj : j < (Utf8.encode (r : Int)).size), 128 ≤ ((Utf8.encode (r : Int))[j]).toNat := by
  have c1 : ¬ r < 128 := by omega
  have key := high_of (Utf8.encode (r : Int))
  cases v : Utf8.valid (r : Int)
  · exact key [239, 191, 189] (by simp [Utf8.encode, v, Utf8.runeError]) (by decide) (by decide) (by decide)
  · by_cases c2 : r < 2048
    · refine key [UInt8.ofNat (192 + r / 64), UInt8.ofNat (128 + r % 64)] (by simp [Utf8.encode, v, c1, c2]) (by simp) (by simp) ?_
      intro x hx
      simp only [List.mem_cons, List.not_mem_nil, or_false] at hx
      rcases hx with rfl | rfl <;> simp <;> omega
    · by_cases c3 : r < 65536
      · refine key [UInt8.ofNat (224 + r / 4096), UInt8.ofNat (128 + r / 64 % 64), UInt8.ofNat (128 + r % 64)] (by simp [Utf8.encode, v, c1, c2, c3]) (by simp) (by simp) ?_
        intro x hx
        simp only [List.mem_cons, List.not_mem_nil, or_false] at hx
        rcases hx with rfl | rfl | rfl <;> simp <;> omega
      · have c4 : r ≤ 1114111 := by simp [Utf8.valid] at v; omega
        refine key [UInt8.ofNat (240 + r / 262144), UInt8.ofNat (128 + r / 4096 % 64), UInt8.ofNat (128 + r / 64 % 64), UInt8.ofNat (128 + r % 64)] (by simp [Utf8.encode, v, c1, c2, c3]) (by simp) (by simp) ?_
        intro x hx
        simp only [List.mem_cons, List.not_mem_nil, or_false] at hx
        rcases hx with rfl | rfl | rfl | rfl <;> simp <;> omega

/-- All bytes are ASCII. -/
def Asc (l : List UInt8) : Prop := ∀ (j : Nat) b, l[j]? = some b → b.toNat < 128
theorem indexByte_high : ∀ (l : List UInt8) (c : UInt8), Asc l → 128 ≤ c.toNat → Lib.indexByte l c = -1
  | [], _, _, _ => rfl
  | b :: l, c, h, hc => by
    have hb := h 0 b rfl
    have ih := indexByte_high l c (fun j x hx => h (j + 1) x (by simpa using hx)) hc
    have hne : (b == c) = false := by
      rw [beq_eq_false_iff_ne]
      rintro rfl
      omega
    unfold Lib.indexByte
    simp [hne, ih]
theorem Asc.drop {l : List UInt8} (h : Asc l) (n : Nat) : Asc (l.drop n) := fun j b hb => h (n + j) b (by simpa using hb)

theorem asc_extract {s : ByteArray} (h : Asc s.data.toList) (a b : Nat) : Asc (s.extract a b).data.toList := by
  rw [Lib.extract_data]
  intro j x hx
  rw [List.getElem?_take] at hx
  split at hx
  · exact h (a + j) x (by simpa using hx)
  · cases hx
theorem indexByte_none (s : ByteArray) (c : UInt8) (w : World) (ha : Asc s.data.toList) (hc : 128 ≤ c.toNat) :
    Calls Tryz.prog 225 #[.string s, .int .u8 c.toNat] w fun e w' => e = .returned (.int .i64 (-1)) ∧ w' = w := by
  have h := Tryz.strings_IndexByte s c.toNat w
  have e : ((c.toNat : Int)).toNat.toUInt8 = c := by simp
  rw [e, indexByte_high _ _ ha hc] at h
  exact h

set_option maxHeartbeats 4000000 in
set_option maxRecDepth 100000 in
theorem indexRune_error (s : ByteArray) (w : World) (ha : Asc s.data.toList) :
    Calls Tryz.prog 213 #[.string s, .int .i32 65533] w fun e w' => e = .returned (.int .i64 (-1)) ∧ Keep w w' := by
  have HA : Hid (Asc s.data.toList) := ha
  clear ha
  go_enter Tryz.func213, Tryz.ntmps213
  go_wp2_with fail
  go_loopg [5, 6] s.size (fun g _ _ wx => ∃ i : Nat, i + g = s.size ∧ wx = w.iter s i)
  case atStart => exact ⟨0, by omega, rfl⟩
  case round =>
    obtain ⟨i, hig, rfl⟩ := hrel
    cases gk with
    | zero =>
      obtain rfl : i = s.size := by omega
      have hnx := run_next_end (P := Tryz.prog) w s s.size
      go_wp2
      go_ret
      exact ⟨rfl, Keep.alloc _ _⟩
    | succ g =>
      have hi : i < s.size := by omega
      obtain ⟨x, hx⟩ : ∃ x : UInt8, s[i]'hi = x := ⟨_, rfl⟩
      have hxl : s.data.toList[i]? = some x := by rw [← hx]; exact Lib.data_getElem? s i hi
      have hx128 : x.toNat < 128 := HA.out i x hxl
      have hnx := fun ty => run_next_ascii (P := Tryz.prog) w s i ty hi (by rw [hx]; exact hx128)
      rw [hx] at hnx
      clear hxl hx
      have hne : ((x.toNat : Int) == 65533) = false := by rw [beq_eq_false_iff_ne]; omega
      go_wp2
      go_roundg g
      case measure => omega
      case rel => exact ⟨i + 1, by omega, rfl⟩

set_option maxHeartbeats 4000000 in
set_option maxRecDepth 100000 in
theorem indexRune_high (s : ByteArray) (r : Nat) (w : World) (ha : Asc s.data.toList) (hr : 128 ≤ r) (_hr2 : r ≤ 2147483647) :
    Calls Tryz.prog 213 #[.string s, .int .i32 r] w fun e w' => e = .returned (.int .i64 (-1)) ∧ Keep w w' := by
  by_cases h6 : r = 65533
  · subst h6
    exact indexRune_error s w ha
  · have h6' : ((r : Int) == 65533) = false := by rw [beq_eq_false_iff_ne]; omega
    clear h6
    have g1 : (0 : Int) ≤ (r : Int) := by omega
    have g2 : decide ((r : Int) < 128) = false := decide_eq_false (by omega)
    cases hv : Lib.validRune (r : Int)
    · have HV : Hid (Lib.validRune (r : Int) = false) := hv
      clear hv
      go_enter Tryz.func213, Tryz.ntmps213
      go_wp2_with (go_at_call 226; refine (Tryz.utf8_ValidRune _ _).mono ?_; rintro e w' ⟨rfl, hw⟩; rw [HV.out, hw]; clear hw)
      go_ret
      exact ⟨rfl, Keep.refl _⟩
    · have HV : Hid (Lib.validRune (r : Int) = true) := hv
      clear hv
      obtain ⟨e1, e2, e3⟩ := enc_high r hr
      go_enter Tryz.func213, Tryz.ntmps213
      go_wp2_with (go_at_call 226; refine (Tryz.utf8_ValidRune _ _).mono ?_; rintro e w' ⟨rfl, hw⟩; rw [HV.out, hw]; clear hw)
      have HA : Hid (Asc s.data.toList) := ha
      clear ha
      go_step3
      go_wp2_with fail
      generalize Utf8.encode (r : Int) = rs at e1 e2 e3 ⊢
      have hcast : ((rs.size : Int) - 1) = ((rs.size - 1 : Nat) : Int) := by omega
      rw [hcast]
      have hm1 : rs.size - 1 < rs.size := by omega
      have hm2 : rs.size - 1 ≤ 3 := by omega
      generalize rs.size - 1 = m at hm1 hm2 ⊢
      have hc : 128 ≤ (rs[m]).toNat := e3 m hm1
      clear hcast e3
      go_loopg [9, 10] 1 (fun g s9 s10 wx => g = 1 ∧ s9 = .int .i64 m ∧ wx = w)
      case atStart => exact ⟨rfl, rfl, rfl⟩
      case round =>
        obtain ⟨hg, rfl, rfl⟩ := hrel
        by_cases hlt : m < s.size
        · have hsm : (s[m]).toNat < 128 := HA.out m s[m] (Lib.data_getElem? s m hlt)
          have hne : (((s[m]).toNat : Int) != ((rs[m]).toNat : Int)) = true := by rw [bne_iff_ne]; omega
          have q1 : (0 : Int) ≤ (m : Int) := by omega
          have q2 : (m : Int) < (s.size : Int) := by omega
          have q3 : (m : Int) < (rs.size : Int) := by omega
          have q4 : (m : Int) + 1 ≤ (s.size : Int) := by omega
          have q5 : (0 : Int) ≤ (m : Int) + 1 := by omega
          go_wp2_with fail
          go_step3
          go_wp2_with fail
          go_quiet (fail)
          have kq : Keep wr (wr.drewN nq) := Keep.drewN (Keep.refl _) nq
          generalize wr.drewN nq = W0 at kq ⊢
          go_wp2_with fail
          refine wp_region_quiet_lit (by kernel_rfl) (by kernel_rfl) ?_
          go_big_quiet_step (fail)
          go_big_quiet_step (fail)
          go_big_quiet_step (fail)
          refine wpQuiet_step (fun K hK => ?_)
          go_simp
          refine hK _ ?_
          clear hK K
          go_big_quiet_step (fail)
          go_big_quiet_step (fail)
          go_big_quiet_step (fail)
          go_big_quiet_step ((go_at_call 225; exact Calls.quiet_of_same (indexByte_none _ _ _ (asc_extract HA.out _ _) hc)))
          go_big_quiet_step (fail)
          refine wpQuiet_nil ?_
          intro w9 hw9
          obtain ⟨nq9, hw9⟩ := hw9
          subst hw9
          go_wp2_with fail
          simp only [Exit.noGoto, Exit.inBlock, Exit.then]
          go_ret
          exact ⟨rfl, kq.drewN _⟩
        · go_wp2_with fail
          rw [Exit.noGoto_ret]
          go_ret
          exact ⟨rfl, Keep.refl _⟩

theorem get!_at (s : ByteArray) (k : Nat) (h : k < s.size) : s.get! k = s[k] := by
  simp [ByteArray.get!, getElem!_pos, h]
  rfl
theorem decode_conts (s : ByteArray) (pos : Nat) (h : pos < s.size) (ha : 128 ≤ (s[pos]).toNat) : ∀ j, j < (Utf8.decode s pos).2 → pos + j < s.size ∧ 128 ≤ (s.get! (pos + j)).toNat := by
  have hn : ¬ (s[pos]).toNat < 128 := by omega
  have h0 : pos + 0 < s.size ∧ 128 ≤ (s.get! (pos + 0)).toNat := ⟨h, by rw [get_at s pos h]; exact ha⟩
  simp only [Utf8.decode, get_at s pos h, hn, if_false]
  intro j hj
  split at hj
  · rename_i c
    simp at c
    split at hj
    · have : j = 0 ∨ j = 1 := by simp at hj; omega
      rcases this with rfl | rfl
      · exact h0
      · exact ⟨c.2.1, by omega⟩
    · have : j = 0 := by simp at hj; omega
      subst this; exact h0
  · split at hj
    · rename_i c
      simp at c
      split at hj
      · have : j = 0 ∨ j = 1 ∨ j = 2 := by simp at hj; omega
        rcases this with rfl | rfl | rfl
        · exact h0
        · exact ⟨c.1.2.1, by omega⟩
        · exact ⟨c.2.1, by omega⟩
      · have : j = 0 := by simp at hj; omega
        subst this; exact h0
    · split at hj
      · rename_i c
        simp at c
        split at hj
        · have : j = 0 ∨ j = 1 ∨ j = 2 ∨ j = 3 := by simp at hj; omega
          rcases this with rfl | rfl | rfl | rfl
          · exact h0
          · exact ⟨c.1.1.2.1, by omega⟩
          · exact ⟨c.1.2.1, by omega⟩
          · exact ⟨c.2.1, by omega⟩
        · have : j = 0 := by simp at hj; omega
          subst this; exact h0
      · have : j = 0 := by simp at hj; omega
        subst this; exact h0
theorem noAny_add {s : ByteArray} {chars : List UInt8} (hc : Asc chars) {i k : Nat} (h : Lib.NoAny s.data.toList chars i) (hk : ∀ j, j < k → i + j < s.size ∧ 128 ≤ (s.get! (i + j)).toNat) : Lib.NoAny s.data.toList chars (i + k) := by
  intro j b hj hb
  by_cases hji : j < i
  · exact h j b hji hb
  · obtain ⟨h1, h2⟩ := hk (j - i) (by omega)
    rw [show i + (j - i) = j by omega] at h1 h2
    have hbj : b = s[j] := by rw [Lib.data_getElem? s j h1] at hb; exact (Option.some.inj hb).symm
    rw [get!_at s j h1] at h2
    cases e : chars.contains b
    · rfl
    · rw [List.contains_iff_mem] at e
      obtain ⟨q, hq, e2⟩ := List.getElem_of_mem e
      have hlow := hc q b (by rw [← e2]; exact List.getElem?_eq_getElem hq)
      rw [hbj] at hlow
      omega

set_option maxHeartbeats 8000000 in
set_option maxRecDepth 100000 in
theorem indexAny_short (s chars : ByteArray) (w : World) (h2 : 2 ≤ chars.size) (h8 : s.size ≤ 8) (hc : Asc chars.data.toList) :
    Calls Tryz.prog 224 #[.string s, .string chars] w fun e w' => e = .returned (.int .i64 (Lib.indexAny s.data.toList chars.data.toList)) ∧ Keep w w' := by
  have HC : Hid (Asc chars.data.toList) := hc
  clear hc
  have hemp : chars.toList.isEmpty = false := empty_false (fun e => by have := size_list chars; rw [e] at this; simp at this; omega)
  have hn1 : ((chars.size : Int) == 1) = false := beq_eq_false_iff_ne.2 (by omega)
  have h8z : decide ((8 : Int) < (s.size : Int)) = false := decide_eq_false (by omega)
  go_enter Tryz.func224, Tryz.ntmps224
  go_wp2_with (go_at_call 229; refine (Tryz.strings_shouldUseASCIISet _ _).mono ?_; rintro e w' ⟨rfl, hw⟩; rw [hw, h8z]; clear hw)
  go_loopg [9, 10] s.size (fun g _ _ wx => ∃ i : Nat, i + g = s.size ∧ wx.heap[w.heap.size]? = some (.stringIter s i) ∧ Keep w wx ∧ Lib.NoAny s.data.toList chars.data.toList i)
  case atStart => exact ⟨0, by omega, World.iter_heap _ _ _, Keep.alloc _ _, Lib.NoAny.zero _ _⟩
  case round =>
    obtain ⟨i, hig, hit, hkw, hno⟩ := hrel
    have HN : Hid (Lib.NoAny s.data.toList chars.data.toList i) := hno
    have HI : Hid (wr.heap[w.heap.size]? = some (.stringIter s i)) := hit
    clear hno hit
    by_cases hi : i < s.size
    · have kw1 : Keep w (wr.iterAt w.heap.size s (i + (Utf8.decode s i).2)) := Lib.below_iterAt hkw (Nat.le_refl _) _ _
      have hwi : w.heap.size < wr.heap.size := (Array.getElem?_eq_some_iff.1 HI.out).1
      by_cases hx : (s[i]).toNat < 128
      · have hnx := fun ty => Lib.run_next_ascii_at (P := Tryz.prog) wr w.heap.size s i ty HI.out hi hx
        have hcon := Lib.contains_iff_indexByte chars.data.toList s[i]
        have hback : (((s[i]).toNat : Int)).toNat.toUInt8 = s[i] := by simp
        have kw2 : Keep w (wr.iterAt w.heap.size s (i + 1)) := Lib.below_iterAt hkw (Nat.le_refl _) _ _
        have HX : Hid (s.data.toList[i]? = some s[i]) := Lib.data_getElem? s i hi
        have hit2 : (wr.iterAt w.heap.size s (i + 1)).heap[w.heap.size]? = some (.stringIter s (i + 1)) := Lib.iterAt_heap wr _ s i (i + 1) HI.out
        have HI2 : Hid ((wr.iterAt w.heap.size s (i + 1)).heap[w.heap.size]? = some (.stringIter s (i + 1))) := hit2
        clear hit2
        cases hin : chars.data.toList.contains s[i]
        · rw [hin] at hcon
          have hlt : ¬ ((0 : Int) ≤ Lib.indexByte chars.data.toList s[i]) := of_decide_eq_false hcon.symm
          have HIN : Hid (chars.data.toList.contains s[i] = false) := hin
          clear hcon hin
          go_wp2_with (go_at_call 213; refine (Tryz.strings_IndexRune_ascii _ _ _ (by omega) (by omega)).mono ?_; rintro e w' ⟨rfl, hw⟩; rw [hw, hback]; clear hw)
          go_roundg (gk - 1)
          case measure => omega
          case rel => exact ⟨i + 1, by omega, HI2.out, kw2, HN.out.succ HX.out HIN.out⟩
        · rw [hin] at hcon
          have hge : (0 : Int) ≤ Lib.indexByte chars.data.toList s[i] := of_decide_eq_true hcon.symm
          have HIN : Hid (chars.data.toList.contains s[i] = true) := hin
          clear hcon hin
          go_wp2_with (go_at_call 213; refine (Tryz.strings_IndexRune_ascii _ _ _ (by omega) (by omega)).mono ?_; rintro e w' ⟨rfl, hw⟩; rw [hw, hback]; clear hw)
          go_ret
          exact ⟨ret_int (Lib.indexAny_hit HN.out HX.out HIN.out).symm, kw2⟩
      · have hx' : 128 ≤ (s[i]).toNat := by omega
        have hnx := fun ty => Lib.run_next_any_at (P := Tryz.prog) wr w.heap.size s i ty HI.out hi
        obtain ⟨d1, d2⟩ := decode_high s i hi hx'
        have d3 := decode_le s i
        have HD : Hid (∀ j, j < (Utf8.decode s i).2 → i + j < s.size ∧ 128 ≤ (s.get! (i + j)).toNat) := decode_conts s i hi hx'
        have d4 : i + (Utf8.decode s i).2 ≤ s.size := by have := (HD.out ((Utf8.decode s i).2 - 1) (by omega)).1; omega
        have hit2 : (wr.iterAt w.heap.size s (i + (Utf8.decode s i).2)).heap[w.heap.size]? = some (.stringIter s (i + (Utf8.decode s i).2)) := Lib.iterAt_heap wr _ s i _ HI.out
        have HI2 : Hid ((wr.iterAt w.heap.size s (i + (Utf8.decode s i).2)).heap[w.heap.size]? = some (.stringIter s (i + (Utf8.decode s i).2))) := hit2
        have hwi2 : w.heap.size < (wr.iterAt w.heap.size s (i + (Utf8.decode s i).2)).heap.size := by rw [Lib.iterAt_size]; exact hwi
        clear hit2
        generalize (Utf8.decode s i).2 = k at *
        generalize (Utf8.decode s i).1 = r at *
        generalize wr.iterAt w.heap.size s (i + k) = W1 at *
        go_wp2_with fail
        refine (indexRune_high _ r _ HC.out d1 d3).mono ?_
        rintro e w2 ⟨rfl, hk2⟩
        have HI3 : Hid (w2.heap[w.heap.size]? = some (.stringIter s (i + k))) := by show _ = _; rw [hk2.block _ hwi2]; exact HI2.out
        have kw3 : Keep w w2 := kw1.trans hk2
        go_wp2_with fail
        go_roundg (gk - k)
        case measure => omega
        case rel => exact ⟨i + k, by omega, HI3.out, kw3, noAny_add HC.out HN.out HD.out⟩
    · have hnx := fun ty => Lib.run_next_end_at (P := Tryz.prog) wr w.heap.size s i ty HI.out hi
      have hi' : i = s.size := by omega
      have HX : Hid (i = s.size) := hi'
      clear hi'
      go_wp2
      go_ret
      exact ⟨ret_int (Lib.indexAny_none (by rw [size_list, ← HX.out]; exact HN.out)).symm, hkw⟩

theorem zero_set : ∀ w, (zeroValue 184).run Tryz.prog w = .ok (.agg (Array.replicate 256 (.bool false))) w := fun w => by kernel_rfl

theorem indexAny_any (s chars : ByteArray) (w : World) (hs : s.size ≤ 20000) (h1 : 1 ≤ chars.size) (h3 : chars.size ≤ 100) (hc : Asc chars.data.toList) :
    Calls Tryz.prog 224 #[.string s, .string chars] w fun e w' => e = .returned (.int .i64 (Lib.indexAny s.data.toList chars.data.toList)) ∧ Keep w w' := by
  by_cases e1 : chars.size = 1
  · refine (Tryz.strings_IndexAny_one s chars w e1 hc).mono ?_
    rintro e w' ⟨rfl, rfl⟩
    exact ⟨rfl, Keep.refl _⟩
  · by_cases e8 : s.size ≤ 8
    · exact indexAny_short s chars w (by omega) e8 hc
    · refine (Tryz.strings_IndexAny_long zero_set s chars w (by omega) (by omega) (by omega) (by omega) hc).mono ?_
      rintro e w' ⟨rfl, rfl⟩
      exact ⟨rfl, (Keep.alloc _ _).alloc' _⟩
end Go.Proofs.YtnagpmilagdjeaaGreatDoor
