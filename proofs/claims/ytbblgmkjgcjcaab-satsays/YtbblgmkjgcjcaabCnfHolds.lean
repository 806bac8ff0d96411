/- cnf.Holds answers whether each clause has a literal that holds in the model, or an error. -/
import Derived.Test.YtbblgmkjgcjcaabCnfCheck
namespace Go.Proofs.Ytbblgmkjgcjcaab
open Go.RowKit Go.Lib

theorem BoolsIs.shape {S : Nat → Prop} {w : World} {bs : List Bool} {v : Value} (h : BoolsIs S w bs v) : ∃ p cap, v = .slice p bs.length cap ∧ bs.length ≤ 9223372036854775807 := by
  obtain ⟨p, cap, h1, h2, -⟩ := h
  exact ⟨p, cap, h1, h2⟩
theorem BoolsIs.cellD {S : Nat → Prop} {w : World} {bs : List Bool} {p : Option Addr} {n cap : Nat} (h : BoolsIs S w bs (.slice p n cap)) {k : Nat} (hk : k < bs.length) : ∃ b off, p = some ⟨b, off, none⟩ ∧ S b ∧ w.cell? ⟨b, off + k, none⟩ = some (.bool bs[k]) := by
  obtain ⟨p', cap', h1, -, h2⟩ := h
  cases h1
  obtain ⟨b, off, h3, h4, h5⟩ := h2 (by omega)
  exact ⟨b, off, h3, h4, h5 k _ (List.getElem?_eq_getElem hk)⟩
theorem inM_at {m : List Bool} {x : Int} (hx : x ≠ 0) (h : x.natAbs - 1 < m.length) : inM m x = if x < 0 then !m[x.natAbs - 1] else m[x.natAbs - 1] := by
  unfold inM
  rw [List.getD_eq_getElem?_getD, List.getElem?_eq_getElem h, Option.getD_some]
  generalize m[x.natAbs - 1] = b
  split
  · rw [decide_eq_false (by omega)]; cases b <;> rfl
  · rw [decide_eq_true (by omega)]; cases b <;> rfl

set_option maxHeartbeats 1000000 in
theorem holds1_any (S : Nat → Prop) (n : Nat) (m : List Bool) (mv : Value) (b : Nat) (x : Int) (w : World) (hS : ∀ b, S b → b < w.heap.size) (hm : BoolsIs S w m mv) (hb : VarAt b 25 mv w) (hn : n ≤ 1000) (hl : m.length = n) (hx : Lit n x) :
    Calls Try.prog 38 #[.int .i64 x, .pointer (some ⟨b, 0, none⟩)] w fun e w' => e = .returned (.bool (inM m x)) ∧ w' = w := by
  obtain ⟨mp, mc, rfl, hml⟩ := hm.shape
  have hx2 : x.natAbs - 1 < m.length := by have := hx.2; have := hx.1; omega
  have hx0 := hx.1
  have hx3 : x.natAbs ≤ 1000 := by have := hx.2; omega
  obtain ⟨mb, mo, rfl, hmb, hcell⟩ := hm.cellD hx2
  have HI := hid (inM_at hx0 hx2)
  generalize m[x.natAbs - 1] = β at hcell HI
  obtain ⟨hv, -, hlb⟩ := hb.facts
  have hmb2 := hS mb hmb
  clear hl hx
  by_cases h : x < 0
  · have HI2 := hid (HI.out.trans (if_pos h))
    obtain ⟨k, rfl⟩ : ∃ k : Nat, x = -((k : Int) + 1) := ⟨x.natAbs - 1, by omega⟩
    have e1 : (-((k : Int) + 1)).natAbs - 1 = k := by omega
    rw [e1] at hcell hx2
    have e2 : -(-((k : Int) + 1)) - 1 = (k : Int) := by omega
    have h4 : (k : Int) ≤ 1000 := by omega
    have h5 : k < m.length := hx2
    clear e1 hx3 hx0
    go_enter Try.func38, Try.ntmps38
    go_wp2_with fail
    go_ret
    exact ⟨ret_bool HI2.out.symm, rfl⟩
  · have HI2 := hid (HI.out.trans (if_neg h))
    obtain ⟨k, rfl⟩ : ∃ k : Nat, x = (k : Int) + 1 := ⟨x.natAbs - 1, by omega⟩
    have e1 : ((k : Int) + 1).natAbs - 1 = k := by omega
    rw [e1] at hcell hx2
    have e2 : ((k : Int) + 1) - 1 = (k : Int) := by omega
    have h4 : (k : Int) ≤ 1000 := by omega
    have h5 : k < m.length := hx2
    clear e1 hx3 hx0
    go_enter Try.func38, Try.ntmps38
    go_wp2_with fail
    go_ret
    exact ⟨ret_bool HI2.out.symm, rfl⟩
theorem enter_holds1 (args : Array Value) (w : World) : (callFunc 38 args).run Try.prog w = .ok (.enter 38 args) w := enters_of Try.func38 (by kernel_rfl) rfl args w
theorem enter_holds2 (args : Array Value) (w : World) : (callFunc 39 args).run Try.prog w = .ok (.enter 39 args) w := enters_of Try.func39 (by kernel_rfl) rfl args w
set_option maxHeartbeats 1000000 in
theorem holds2_any (S : Nat → Prop) (n : Nat) (m : List Bool) (mv : Value) (b d : Nat) (c : List Int) (cv : Value) (w : World) (hS : ∀ b, S b → b < w.heap.size) (hm : BoolsIs S w m mv) (hb : VarAt b 25 mv w) (hn : n ≤ 1000) (hl : m.length = n) (hx : LitsC n c) (hc : NumsIs S w c cv)
    (hd : VarAt d 33 (.func (.func 38) #[] #[.pointer (some ⟨b, 0, none⟩)]) w) :
    Calls Try.prog 39 #[cv, .pointer (some ⟨d, 0, none⟩)] w fun e w' => e = .returned (.bool (!c.any (inM m))) ∧ w' = w := by
  obtain ⟨cp, cc, rfl, hcl⟩ := hc.shape
  obtain ⟨hv, -, hlb⟩ := hd.facts
  have HC := hid (hasC_any (cap := #[.pointer (some ⟨b, 0, none⟩)]) S c (inM m) cp cc w hS enter_holds1 hc (fun x hxc => holds1_any S n m mv b x w hS hm hb hn hl (hx x hxc)))
  generalize c.any (inM m) = β at HC ⊢
  clear hm hb hl hx hc hd hn
  go_enter Try.func39, Try.ntmps39
  go_wp2_with fail
  refine HC.out.mono ?_
  rintro e w1 ⟨rfl, hw1⟩
  rw [hw1]
  clear hw1 HC
  go_wp2_with fail
  go_ret
  exact ⟨rfl, rfl⟩

def holdsE (vars : Int) (F : List (List Int)) (m : List Bool) : Int := if formE vars F ≠ 0 then formE vars F else if (m.length : Int) ≠ vars then 4 else 0
def holdsB (vars : Int) (F : List (List Int)) (m : List Bool) : Bool := (holdsE vars F m == 0) && F.all fun c => c.any (inM m)
set_option maxHeartbeats 2000000 in
set_option maxRecDepth 100000 in
theorem holds_any (S : Nat → Prop) (vars : Int) (F : List (List Int)) (p : Option Addr) (cap : Nat) (m : List Bool) (mv : Value) (w : World) (hS : ∀ b, S b → b < w.heap.size) (hf : FormIs S w vars F p cap) (hm : BoolsIs S w m mv) :
    Calls Try.prog 11 #[.agg #[.int .i64 vars, .slice p F.length cap], mv] w fun e w' => e = .returned (.tuple #[.bool (holdsB vars F m), .int .i64 (holdsE vars F m)]) ∧ Keep w w' := by
  have HF := hid hf
  have HM := hid hm
  obtain ⟨mp, mc, rfl, hml⟩ := hm.shape
  have HE := hid (show holdsE vars F m = if formE vars F ≠ 0 then formE vars F else if (m.length : Int) ≠ vars then 4 else 0 from rfl)
  have HB := hid (show holdsB vars F m = ((holdsE vars F m == 0) && F.all fun c => c.any (inM m)) from rfl)
  clear hf hm
  go_enter Try.func11, Try.ntmps11
  go_wp2_with fail
  refine at_calls (fun W' => Keep w W' ∧ BoxAt w.heap.size 24 #[.int .i64 vars, .slice p F.length cap] W' ∧ VarAt (w.heap.size + 1) 25 (.slice mp m.length mc) W') ⟨(Keep.alloc _ _).alloc' _, (BoxAt.new _ _ _).keep (Keep.alloc _ _) (by simp), ?_⟩ ?_
  · have := VarAt.new (w.alloc (.cells #[.int .i64 vars, .slice p F.length cap] 24)) 25 (.slice mp m.length mc)
    rw [alloc_size] at this; exact this
  rintro W0 ⟨k0, b0, v0⟩
  refine (formCheck_any S vars F p cap W0 (fun b hb => Nat.lt_of_lt_of_le (hS b hb) k0.size) (HF.out.keep hS k0)).mono ?_
  rintro e w1 ⟨rfl, hw1⟩
  have k1 : Keep W0 w1 := by rw [hw1]; exact Keep.alloc _ _
  clear hw1
  have K1 := hid (k0.trans k1)
  have V1 := hid (v0.keep k1 v0.facts.2.2)
  have B1 := hid (b0.keep k1 b0.facts.2.2)
  clear k0 v0 b0 k1
  obtain ⟨hcb, -, hlb⟩ := B1.out.facts
  obtain ⟨hcv, -, hlv⟩ := V1.out.facts
  have HZ := hid (fun h : formE vars F = 0 => formE_zero h)
  generalize formE vars F = r at HE HZ ⊢
  by_cases hr : r = 0
  · subst hr
    obtain ⟨n, hvn, hn4, -, hcl⟩ := HZ.out rfl
    have HE2 := hid (HE.out.trans (if_neg (by simp)))
    by_cases hl : (m.length : Int) = vars
    · have hl' : ((m.length : Int) != vars) = false := by simp [hl]
      have HE3 := hid (HE2.out.trans (if_neg (by simp [hl])))
      have hmn : m.length = n := by omega
      have HCL := hid (And.intro hmn hcl)
      clear hl hvn hmn hcl HZ
      have hmf : ∀ (fn : Fn) (first cap : Array Value) (w : World), (Instr.makeFunc fn first cap).run Try.prog w = .ok (.func fn first cap) w := fun _ _ _ _ => rfl
      go_wp2_with fail
      refine at_calls (fun W' => Keep w1 W' ∧ VarAt w1.heap.size 33 (.func (.func 38) #[] #[.pointer (some ⟨w.heap.size + 1, 0, none⟩)]) W') ⟨Keep.alloc _ _, VarAt.new _ _ _⟩ ?_
      rintro W2 ⟨k2, f2⟩
      have K2 := hid (K1.out.trans k2)
      have hS2 : ∀ b, S b → b < W2.heap.size := fun b hb => Nat.lt_of_lt_of_le (hS b hb) K2.out.size
      have hb2 := HM.out.keep hS K2.out
      have hv2 := V1.out.keep k2 V1.out.facts.2.2
      refine (hasL_any (cap := #[.pointer (some ⟨w1.heap.size, 0, none⟩)]) S F (fun c => !c.any (inM m)) p cap W2 hS2 enter_holds2 (HF.out.keep hS K2.out).row (fun c hc v hv => holds2_any S n m _ _ _ c v W2 hS2 hb2 hv2 (by omega) HCL.out.1 (HCL.out.2 c hc).2 hv f2)).mono ?_
      rintro e w3 ⟨rfl, hw3⟩
      rw [hw3]
      have HAN := hid (show (F.any fun c => !c.any (inM m)) = !(F.all fun c => c.any (inM m)) by rw [List.not_all_eq_any_not])
      generalize (F.any fun c => !c.any (inM m)) = β at HAN ⊢
      clear hw3 k2 f2 hS2 hb2 hv2 hmf
      go_wp2_with fail
      go_ret2
      refine ⟨?_, K2.out⟩
      rw [HB.out, HE3.out, show (F.all fun c => c.any (inM m)) = !β by rw [HAN.out]; simp]; rfl
    · have hl' : ((m.length : Int) != vars) = true := by simp [hl]
      have HE3 := hid (HE2.out.trans (if_pos hl))
      clear hl hcl HZ hvn
      go_wp2_with fail
      go_ret2
      refine ⟨?_, K1.out⟩
      rw [HB.out, HE3.out]; rfl
  · have hr' : (r != 0) = true := by simp [hr]
    have HE2 := hid (HE.out.trans (if_pos hr))
    go_wp2_with fail
    go_ret2
    refine ⟨?_, K1.out⟩
    rw [HB.out, HE2.out, beq_eq_false_iff_ne.2 hr]; rfl
end Go.Proofs.Ytbblgmkjgcjcaab
