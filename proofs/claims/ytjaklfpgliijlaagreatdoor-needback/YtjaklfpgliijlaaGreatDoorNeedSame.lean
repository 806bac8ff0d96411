/- need.sameNode compares all fields but the kids, and how many they are. -/
import Derived.Test.YtjaklfpgliijlaaGreatDoorNeedParse
namespace Go.Proofs.YtjaklfpgliijlaaGreatDoor
open Go.RowKit

def atB (a b : At) : Bool := sameB a.n a.op a.v a.sl a.f a.on b.n b.op b.v b.sl b.f b.on
theorem atB_true {a b : At} : atB a b = true ↔ a = b := by
  unfold atB
  rw [sameB_true]
  constructor
  · rintro ⟨h1, h2, h3, h4, h5, h6⟩
    obtain ⟨n, op, v, sl, f, on⟩ := a
    obtain ⟨n', op', v', sl', f', on'⟩ := b
    simp only at h1 h2 h3 h4 h5 h6
    rw [bytes_same h1, h2, h3, h4, bytes_same h5, h6]
  · rintro rfl
    exact ⟨rfl, rfl, rfl, rfl, rfl, rfl⟩
def headB2 (k : Int) (a : At) (fl : ByteArray) (nt : Bool) (len : Nat) (k' : Int) (a' : At) (fl' : ByteArray) (nt' : Bool) (len' : Nat) : Bool :=
  (k == k') && (atB a a' && ((fl.toList == fl'.toList) && ((nt == nt') && ((len : Int) == (len' : Int)))))
theorem headB2_true {k : Int} {a : At} {fl : ByteArray} {nt : Bool} {len : Nat} {k' : Int} {a' : At} {fl' : ByteArray} {nt' : Bool} {len' : Nat} :
    headB2 k a fl nt len k' a' fl' nt' len' = true ↔ k = k' ∧ a = a' ∧ fl = fl' ∧ nt = nt' ∧ len = len' := by
  unfold headB2
  rw [Bool.and_eq_true, Bool.and_eq_true, Bool.and_eq_true, Bool.and_eq_true, atB_true, Lib.toList_data, Lib.toList_data]
  simp only [beq_iff_eq]
  constructor
  · rintro ⟨h1, h2, h3, h4, h5⟩
    exact ⟨h1, h2, bytes_same h3, h4, by omega⟩
  · rintro ⟨h1, h2, h3, h4, h5⟩
    exact ⟨h1, h2, by rw [h3], h4, by omega⟩

set_option maxHeartbeats 4000000 in
theorem sameNode_any (k1 : Int) (a1 : At) (fl1 : ByteArray) (nt1 : Bool) (kp1 : Option Addr) (len1 kc1 : Nat) (k2 : Int) (a2 : At) (fl2 : ByteArray) (nt2 : Bool) (kp2 : Option Addr) (len2 kc2 : Nat) (w : World) :
    Calls Tryz.prog 34 #[.agg #[.int .i64 k1, .string a1.n, .int .i64 a1.op, .int .i64 a1.v, .int .i64 a1.sl, .string a1.f, .bool a1.on, .string fl1, .bool nt1, .slice kp1 len1 kc1], .agg #[.int .i64 k2, .string a2.n, .int .i64 a2.op, .int .i64 a2.v, .int .i64 a2.sl, .string a2.f, .bool a2.on, .string fl2, .bool nt2, .slice kp2 len2 kc2]] w
      fun e w' => e = .returned (.bool (headB2 k1 a1 fl1 nt1 len1 k2 a2 fl2 nt2 len2)) ∧ Keep w w' := by
  have heq := fun wx => eqAtom a1.n a1.op a1.v a1.sl a1.f a1.on a2.n a2.op a2.v a2.sl a2.f a2.on wx
  have hat : sameB a1.n a1.op a1.v a1.sl a1.f a1.on a2.n a2.op a2.v a2.sl a2.f a2.on = atB a1 a2 := rfl
  rw [hat] at heq
  clear hat
  have K0 := hid ((Keep.alloc w (.cells #[.int .i64 k1, .string a1.n, .int .i64 a1.op, .int .i64 a1.v, .int .i64 a1.sl, .string a1.f, .bool a1.on, .string fl1, .bool nt1, .slice kp1 len1 kc1] 26)).alloc' (.cells #[.int .i64 k2, .string a2.n, .int .i64 a2.op, .int .i64 a2.v, .int .i64 a2.sl, .string a2.f, .bool a2.on, .string fl2, .bool nt2, .slice kp2 len2 kc2] 26))
  have HD : Hid (headB2 k1 a1 fl1 nt1 len1 k2 a2 fl2 nt2 len2 = ((k1 == k2) && (atB a1 a2 && ((fl1.toList == fl2.toList) && ((nt1 == nt2) && ((len1 : Int) == (len2 : Int))))))) := rfl
  cases h1 : (k1 == k2)
  · rw [h1] at HD
    go_enter Tryz.func34, Tryz.ntmps34
    go_wp2_with fail
    go_ret
    exact ⟨ret_bool HD.out.symm, K0.out⟩
  · cases h2 : atB a1 a2
    · rw [h1, h2] at HD
      rw [h2] at heq
      go_enter Tryz.func34, Tryz.ntmps34
      go_wp2_with fail
      go_ret
      exact ⟨ret_bool HD.out.symm, K0.out⟩
    · rw [h2] at heq
      cases h3 : (fl1.toList == fl2.toList)
      · rw [h1, h2, h3] at HD
        go_enter Tryz.func34, Tryz.ntmps34
        go_wp2_with fail
        go_ret
        exact ⟨ret_bool HD.out.symm, K0.out⟩
      · cases h4 : (nt1 == nt2)
        · rw [h1, h2, h3, h4] at HD
          go_enter Tryz.func34, Tryz.ntmps34
          go_wp2_with fail
          go_ret
          exact ⟨ret_bool HD.out.symm, K0.out⟩
        · rw [h1, h2, h3, h4] at HD
          go_enter Tryz.func34, Tryz.ntmps34
          go_wp2_with fail
          go_ret
          exact ⟨ret_bool HD.out.symm, K0.out⟩
end Go.Proofs.YtjaklfpgliijlaaGreatDoor
