/- slices.IndexFunc, slices.ContainsFunc, slices.Index, slices.Contains of rows of numbers and of clauses; a function that is handed in leaves the world as it is. -/
import Derived.Test.YtbblgmkjgcjcaabFolHold
import Derived.Shelf.Abstract
namespace Go.Proofs.Ytbblgmkjgcjcaab
open Go.RowKit Go.Lib

set_option maxHeartbeats 2000000 in
theorem indexI_any {F : Nat} {cap : Array Value} (S : Nat → Prop) (zs : List Int) (g : Int → Bool) (p : Option Addr) (cp : Nat) (w : World) (hS : ∀ b, S b → b < w.heap.size) (hF : ∀ args w, (callFunc F args).run Try.prog w = .ok (.enter F args) w) (hz : NumsIs S w zs (.slice p zs.length cp))
    (hc : ∀ x ∈ zs, Calls Try.prog F (#[.int .i64 x] ++ cap) w fun e w' => e = .returned (.bool (g x)) ∧ w' = w) :
    Calls Try.prog 46 #[.slice p zs.length cp, .func (.func F) #[] cap] w fun e w' => ∃ n : Int, e = .returned (.int .i64 n) ∧ decide (0 ≤ n) = zs.any g ∧ w' = w := by
  have hmax : zs.length ≤ 9223372036854775807 := by obtain ⟨_, _, _, h⟩ := hz.shape; exact h
  have HZ := hid hz
  have HC := hid hc
  clear hz hc
  go_enter Try.func46, Try.ntmps46
  go_wp2_with fail
  go_loopg [8] zs.length (fun gk i wr => ∃ j : Nat, j + gk = zs.length ∧ i = .int .i64 j ∧ (zs.take j).any g = false ∧ wr = w)
  case atStart => exact ⟨0, by simp, rfl, by simp, rfl⟩
  case round =>
    obtain ⟨j, hj, rfl, hno, hw⟩ := hrel
    subst hw
    have HNO := hid hno
    clear hno
    by_cases hlt : j < zs.length
    · obtain ⟨b, off, rfl, hb, hcell⟩ := HZ.out.cellD hlt
      have HCALL := hid (HC.out zs[j] (List.getElem_mem hlt))
      have HST : Hid ((zs.take (j + 1)).any g = g zs[j]) := by
        show _ = _
        rw [List.take_succ_eq_append_getElem hlt, List.any_append, HNO.out]; simp
      have HUP : Hid (g zs[j] = true → zs.any g = true) := fun h => List.any_eq_true.2 ⟨zs[j], List.getElem_mem hlt, h⟩
      have hbl := hS b hb
      generalize zs[j] = x at HCALL HST HUP hcell
      generalize g x = β at HCALL HST HUP
      clear HNO
      go_wp2_with fail
      refine HCALL.out.mono ?_
      rintro e w1 ⟨rfl, hw1⟩
      rw [hw1]
      clear hw1 HCALL
      cases β
      · go_wp2_with fail
        go_roundg (zs.length - (j + 1))
        case rel => exact ⟨j + 1, by omega, by go_num, HST.out, rfl⟩
        case measure => omega
      · go_wp2_with fail
        go_ret
        exact ⟨(j : Int), rfl, by rw [show zs.any g = true from HUP.out trivial]; exact decide_eq_true (by omega), rfl⟩
    · obtain rfl : j = zs.length := by omega
      go_wp2_with fail
      go_ret
      refine ⟨-1, rfl, ?_, rfl⟩
      have := HNO.out
      rw [List.take_length] at this
      rw [this]; rfl
set_option maxHeartbeats 1000000 in
theorem hasI_any {F : Nat} {cap : Array Value} (S : Nat → Prop) (zs : List Int) (g : Int → Bool) (p : Option Addr) (cp : Nat) (w : World) (hS : ∀ b, S b → b < w.heap.size) (hF : ∀ args w, (callFunc F args).run Try.prog w = .ok (.enter F args) w) (hz : NumsIs S w zs (.slice p zs.length cp))
    (hc : ∀ x ∈ zs, Calls Try.prog F (#[.int .i64 x] ++ cap) w fun e w' => e = .returned (.bool (g x)) ∧ w' = w) :
    Calls Try.prog 15 #[.slice p zs.length cp, .func (.func F) #[] cap] w fun e w' => e = .returned (.bool (zs.any g)) ∧ w' = w := by
  have HI := hid (indexI_any S zs g p cp w hS hF hz hc)
  clear hz hc
  go_enter Try.func15, Try.ntmps15
  go_wp2_with fail
  refine HI.out.mono ?_
  rintro e w1 ⟨n, rfl, hn, hw1⟩
  rw [hw1]
  have HN := hid hn
  clear hn hw1 HI
  go_wp2_with fail
  go_ret
  exact ⟨ret_bool HN.out, rfl⟩
--/
set_option maxHeartbeats 2000000 in
theorem indexC_any {F : Nat} {cap : Array Value} (S : Nat → Prop) (zs : List Int) (g : Int → Bool) (p : Option Addr) (cp : Nat) (w : World) (hS : ∀ b, S b → b < w.heap.size) (hF : ∀ args w, (callFunc F args).run Try.prog w = .ok (.enter F args) w) (hz : NumsIs S w zs (.slice p zs.length cp))
    (hc : ∀ x ∈ zs, Calls Try.prog F (#[.int .i64 x] ++ cap) w fun e w' => e = .returned (.bool (g x)) ∧ w' = w) :
    Calls Try.prog 59 #[.slice p zs.length cp, .func (.func F) #[] cap] w fun e w' => ∃ n : Int, e = .returned (.int .i64 n) ∧ decide (0 ≤ n) = zs.any g ∧ w' = w := by
  have hmax : zs.length ≤ 9223372036854775807 := by obtain ⟨_, _, _, h⟩ := hz.shape; exact h
  have HZ := hid hz
  have HC := hid hc
  clear hz hc
  go_enter Try.func59, Try.ntmps59
  go_wp2_with fail
  go_loopg [8] zs.length (fun gk i wr => ∃ j : Nat, j + gk = zs.length ∧ i = .int .i64 j ∧ (zs.take j).any g = false ∧ wr = w)
  case atStart => exact ⟨0, by simp, rfl, by simp, rfl⟩
  case round =>
    obtain ⟨j, hj, rfl, hno, hw⟩ := hrel
    subst hw
    have HNO := hid hno
    clear hno
    by_cases hlt : j < zs.length
    · obtain ⟨b, off, rfl, hb, hcell⟩ := HZ.out.cellD hlt
      have HCALL := hid (HC.out zs[j] (List.getElem_mem hlt))
      have HST : Hid ((zs.take (j + 1)).any g = g zs[j]) := by
        show _ = _
        rw [List.take_succ_eq_append_getElem hlt, List.any_append, HNO.out]; simp
      have HUP : Hid (g zs[j] = true → zs.any g = true) := fun h => List.any_eq_true.2 ⟨zs[j], List.getElem_mem hlt, h⟩
      have hbl := hS b hb
      generalize zs[j] = x at HCALL HST HUP hcell
      generalize g x = β at HCALL HST HUP
      clear HNO
      go_wp2_with fail
      refine HCALL.out.mono ?_
      rintro e w1 ⟨rfl, hw1⟩
      rw [hw1]
      clear hw1 HCALL
      cases β
      · go_wp2_with fail
        go_roundg (zs.length - (j + 1))
        case rel => exact ⟨j + 1, by omega, by go_num, HST.out, rfl⟩
        case measure => omega
      · go_wp2_with fail
        go_ret
        exact ⟨(j : Int), rfl, by rw [show zs.any g = true from HUP.out trivial]; exact decide_eq_true (by omega), rfl⟩
    · obtain rfl : j = zs.length := by omega
      go_wp2_with fail
      go_ret
      refine ⟨-1, rfl, ?_, rfl⟩
      have := HNO.out
      rw [List.take_length] at this
      rw [this]; rfl
set_option maxHeartbeats 1000000 in
theorem hasC_any {F : Nat} {cap : Array Value} (S : Nat → Prop) (zs : List Int) (g : Int → Bool) (p : Option Addr) (cp : Nat) (w : World) (hS : ∀ b, S b → b < w.heap.size) (hF : ∀ args w, (callFunc F args).run Try.prog w = .ok (.enter F args) w) (hz : NumsIs S w zs (.slice p zs.length cp))
    (hc : ∀ x ∈ zs, Calls Try.prog F (#[.int .i64 x] ++ cap) w fun e w' => e = .returned (.bool (g x)) ∧ w' = w) :
    Calls Try.prog 40 #[.slice p zs.length cp, .func (.func F) #[] cap] w fun e w' => e = .returned (.bool (zs.any g)) ∧ w' = w := by
  have HI := hid (indexC_any S zs g p cp w hS hF hz hc)
  clear hz hc
  go_enter Try.func40, Try.ntmps40
  go_wp2_with fail
  refine HI.out.mono ?_
  rintro e w1 ⟨n, rfl, hn, hw1⟩
  rw [hw1]
  have HN := hid hn
  clear hn hw1 HI
  go_wp2_with fail
  go_ret
  exact ⟨ret_bool HN.out, rfl⟩
set_option maxHeartbeats 2000000 in
theorem indexL_any {F : Nat} {cap : Array Value} (S : Nat → Prop) (zs : List (List Int)) (g : List Int → Bool) (p : Option Addr) (cp : Nat) (w : World) (hS : ∀ b, S b → b < w.heap.size) (hF : ∀ args w, (callFunc F args).run Try.prog w = .ok (.enter F args) w) (hz : ClsIs S w zs (.slice p zs.length cp))
    (hc : ∀ x ∈ zs, ∀ v, NumsIs S w x v → Calls Try.prog F (#[v] ++ cap) w fun e w' => e = .returned (.bool (g x)) ∧ w' = w) :
    Calls Try.prog 60 #[.slice p zs.length cp, .func (.func F) #[] cap] w fun e w' => ∃ n : Int, e = .returned (.int .i64 n) ∧ decide (0 ≤ n) = zs.any g ∧ w' = w := by
  have hmax : zs.length ≤ 9223372036854775807 := by obtain ⟨_, _, _, h⟩ := hz.len; exact h
  have HZ := hid hz
  have HC := hid hc
  clear hz hc
  go_enter Try.func60, Try.ntmps60
  go_wp2_with fail
  go_loopg [8] zs.length (fun gk i wr => ∃ j : Nat, j + gk = zs.length ∧ i = .int .i64 j ∧ (zs.take j).any g = false ∧ wr = w)
  case atStart => exact ⟨0, by simp, rfl, by simp, rfl⟩
  case round =>
    obtain ⟨j, hj, rfl, hno, hw⟩ := hrel
    subst hw
    have HNO := hid hno
    clear hno
    by_cases hlt : j < zs.length
    · obtain ⟨b, off, cap', cp', cc', hv, hb, -, hcell, hnum, -⟩ := HZ.out.get hlt
      cases hv
      have HCALL := hid (HC.out zs[j] (List.getElem_mem hlt) _ hnum)
      clear hnum
      have HST : Hid ((zs.take (j + 1)).any g = g zs[j]) := by
        show _ = _
        rw [List.take_succ_eq_append_getElem hlt, List.any_append, HNO.out]; simp
      have HUP : Hid (g zs[j] = true → zs.any g = true) := fun h => List.any_eq_true.2 ⟨zs[j], List.getElem_mem hlt, h⟩
      have hbl := hS b hb
      generalize zs[j] = x at HCALL HST HUP hcell
      generalize g x = β at HCALL HST HUP
      clear HNO
      go_wp2_with fail
      refine HCALL.out.mono ?_
      rintro e w1 ⟨rfl, hw1⟩
      rw [hw1]
      clear hw1 HCALL
      cases β
      · go_wp2_with fail
        go_roundg (zs.length - (j + 1))
        case rel => exact ⟨j + 1, by omega, by go_num, HST.out, rfl⟩
        case measure => omega
      · go_wp2_with fail
        go_ret
        exact ⟨(j : Int), rfl, by rw [show zs.any g = true from HUP.out trivial]; exact decide_eq_true (by omega), rfl⟩
    · obtain rfl : j = zs.length := by omega
      go_wp2_with fail
      go_ret
      refine ⟨-1, rfl, ?_, rfl⟩
      have := HNO.out
      rw [List.take_length] at this
      rw [this]; rfl
set_option maxHeartbeats 1000000 in
theorem hasL_any {F : Nat} {cap : Array Value} (S : Nat → Prop) (zs : List (List Int)) (g : List Int → Bool) (p : Option Addr) (cp : Nat) (w : World) (hS : ∀ b, S b → b < w.heap.size) (hF : ∀ args w, (callFunc F args).run Try.prog w = .ok (.enter F args) w) (hz : ClsIs S w zs (.slice p zs.length cp))
    (hc : ∀ x ∈ zs, ∀ v, NumsIs S w x v → Calls Try.prog F (#[v] ++ cap) w fun e w' => e = .returned (.bool (g x)) ∧ w' = w) :
    Calls Try.prog 41 #[.slice p zs.length cp, .func (.func F) #[] cap] w fun e w' => e = .returned (.bool (zs.any g)) ∧ w' = w := by
  have HI := hid (indexL_any S zs g p cp w hS hF hz hc)
  clear hz hc
  go_enter Try.func41, Try.ntmps41
  go_wp2_with fail
  refine HI.out.mono ?_
  rintro e w1 ⟨n, rfl, hn, hw1⟩
  rw [hw1]
  have HN := hid hn
  clear hn hw1 HI
  go_wp2_with fail
  go_ret
  exact ⟨ret_bool HN.out, rfl⟩
end Go.Proofs.Ytbblgmkjgcjcaab
