/- atom.letter, atom.digit and atom.Name answer as the plain functions letB, digB and nameB say; the world is as it was. -/
import Derived.Test.YtnagpmilagdjeaaGreatDoorRows
import Derived.Test.YtnagpmilagdjeaaGreatDoorAtomSpec
import Derived.WalkKit
import Derived.ProofKit
import Derived.BigQuiet
import Derived.WalkLawsBesides
namespace Go.Proofs.YtnagpmilagdjeaaGreatDoor
open Go.RowKit

theorem ret_bool {a b : Bool} (h : a = b) : Ending.returned (.bool a) = .returned (.bool b) := by rw [h]
theorem ret_int {k : IntKind} {a b : Int} (h : a = b) : Ending.returned (.int k a) = .returned (.int k b) := by rw [h]

theorem letter_any (c : UInt8) (w : World) :
    Calls Tryz.prog 166 #[.int .u8 c.toNat] w fun e w' => e = .returned (.bool (letB c)) ∧ w' = w := by
  rw [letB_eq]
  by_cases h : 97 ≤ (c.toNat : Int)
  · go_enter Tryz.func166, Tryz.ntmps166
    go_wp2
    go_ret
    exact ⟨by simp [h], rfl⟩
  · go_enter Tryz.func166, Tryz.ntmps166
    go_wp2
    go_ret
    exact ⟨by rw [decide_eq_false (by omega)]; rfl, rfl⟩

theorem digit_any (c : UInt8) (w : World) :
    Calls Tryz.prog 167 #[.int .u8 c.toNat] w fun e w' => e = .returned (.bool (digB c)) ∧ w' = w := by
  rw [digB_eq]
  by_cases h : 48 ≤ (c.toNat : Int)
  · go_enter Tryz.func167, Tryz.ntmps167
    go_wp2
    go_ret
    exact ⟨by simp [h], rfl⟩
  · go_enter Tryz.func167, Tryz.ntmps167
    go_wp2
    go_ret
    exact ⟨by rw [decide_eq_false (by omega)]; rfl, rfl⟩

set_option maxHeartbeats 1000000 in
theorem name_any (s : ByteArray) (w : World) :
    Calls Tryz.prog 111 #[.string s] w fun e w' => e = .returned (.bool (nameB s.data.toList)) ∧ w' = w := by
  by_cases h1 : s.size < 1
  · have hn := nameB_len s (Or.inl h1)
    have H : Hid (nameB s.data.toList = false) := hn
    clear hn
    have h1' : (s.size : Int) < 1 := by omega
    go_enter Tryz.func111, Tryz.ntmps111
    go_wp2
    go_ret
    exact ⟨ret_bool H.out.symm, rfl⟩
  · by_cases h8 : 8 < s.size
    · have H : Hid (nameB s.data.toList = false) := nameB_len s (Or.inr h8)
      have h1' : ¬ (s.size : Int) < 1 := by omega
      have h8' : (8 : Int) < s.size := by omega
      go_enter Tryz.func111, Tryz.ntmps111
      go_wp2
      go_ret
      exact ⟨ret_bool H.out.symm, rfl⟩
    · have h1' : ¬ (s.size : Int) < 1 := by omega
      have h8' : ¬ (8 : Int) < s.size := by omega
      have hp : 0 < s.size := by omega
      cases hl : letB s[0]
      · have H : Hid (nameB s.data.toList = false) := nameB_head s hp hl
        have HL : Hid (letB s[0] = false) := hl
        clear hl
        go_enter Tryz.func111, Tryz.ntmps111
        go_wp2_with (go_at_call 166; refine (letter_any _ _).mono ?_; rintro e w' ⟨rfl, rfl⟩; rw [HL.out])
        go_ret
        exact ⟨ret_bool H.out.symm, rfl⟩
      · have HL : Hid (letB s[0] = true) := hl
        clear hl
        go_enter Tryz.func111, Tryz.ntmps111
        go_wp2_with (go_at_call 166; refine (letter_any _ _).mono ?_; rintro e w' ⟨rfl, rfl⟩; rw [HL.out])
        go_loop [20] (fun i => ∃ k : Nat, k ≤ s.size ∧ i = .int .i64 k ∧ (s.data.toList.take k).all okB = true) (fun i => s.size - (intOf i).toNat)
        case atStart => exact ⟨0, Nat.zero_le _, rfl, rfl⟩
        case round =>
          obtain ⟨k, hk, rfl, ha⟩ := hrel
          have HA : Hid ((s.data.toList.take k).all okB = true) := ha
          clear ha
          by_cases hlt : k < s.size
          · cases hlk : letB s[k]
            · have HK : Hid (letB s[k] = false) := hlk
              clear hlk
              cases hdk : digB s[k]
              · have HD : Hid (digB s[k] = false) := hdk
                clear hdk
                have HB : Hid (okB s[k] = false) := by show okB s[k] = false; rw [okB, HK.out, HD.out]; rfl
                go_wp2_with (first | (go_at_call 166; refine (letter_any _ _).mono ?_; rintro e w' ⟨rfl, rfl⟩; rw [HK.out]) | (go_at_call 167; refine (digit_any _ _).mono ?_; rintro e w' ⟨rfl, rfl⟩; rw [HD.out]))
                go_ret
                exact ⟨ret_bool (nameB_bad s k hlt HB.out).symm, rfl⟩
              · have HD : Hid (digB s[k] = true) := hdk
                clear hdk
                have HB : Hid (okB s[k] = true) := by show okB s[k] = true; rw [okB, HK.out, HD.out]; rfl
                go_wp2_with (first | (go_at_call 166; refine (letter_any _ _).mono ?_; rintro e w' ⟨rfl, rfl⟩; rw [HK.out]) | (go_at_call 167; refine (digit_any _ _).mono ?_; rintro e w' ⟨rfl, rfl⟩; rw [HD.out]))
                go_round
                case rel => exact ⟨k + 1, by omega, by go_num, all_snoc s k hlt HA.out HB.out⟩
                case measure => simp [intOf]; omega
            · have HK : Hid (letB s[k] = true) := hlk
              clear hlk
              go_wp2_with (go_at_call 166; refine (letter_any _ _).mono ?_; rintro e w' ⟨rfl, rfl⟩; rw [HK.out])
              go_round
              case rel => exact ⟨k + 1, by omega, by go_num, all_snoc s k hlt HA.out (okB_of_let HK.out)⟩
              case measure => simp [intOf]; omega
          · go_wp2
            go_ret
            have hks : k = s.size := by omega
            subst hks
            exact ⟨ret_bool (nameB_good s hp (by omega) HL.out HA.out).symm, rfl⟩
end Go.Proofs.YtnagpmilagdjeaaGreatDoor
