/- need.tooLarge and need.Check answer as the plain functions largeB and chkN say, of any need that lies in memory; nothing that was there is changed. -/
import Derived.Test.YtnagpmilagdjeaaGreatDoorNeedWalk
namespace Go.Proofs.YtnagpmilagdjeaaGreatDoor
open Go.RowKit

/-- A variable of one cell, at block c. -/
def VarAt (c : Nat) (T : TypeId) (v : Value) (w : World) : Prop := w.heap[c]? = some (.cells #[v] T (0, 0))
theorem VarAt.facts {c : Nat} {T : TypeId} {v : Value} {w : World} (h : VarAt c T v w) : w.cell? ⟨c, 0, none⟩ = some v ∧ w.frozen? ⟨c, 0, none⟩ = false ∧ c < w.heap.size := by
  unfold VarAt at h
  refine ⟨by simp [World.cell?, h], by simp [World.frozen?, h], (Array.getElem?_eq_some_iff.1 h).1⟩
theorem VarAt.set {c : Nat} {T : TypeId} {v : Value} {w : World} (h : VarAt c T v w) (x : Value) : VarAt c T x (w.setCell ⟨c, 0, none⟩ x) := by
  have := heap_set h 0 x
  unfold VarAt
  rw [this]; rfl
theorem VarAt.keep {c B : Nat} {T : TypeId} {v : Value} {w w' : World} (h : VarAt c T v w) (k : Below B w w') (hB : c < B) : VarAt c T v w' := by
  unfold VarAt at *; rw [k.block c hB]; exact h
theorem VarAt.new (w : World) (T : TypeId) (v : Value) : VarAt w.heap.size T v (w.alloc (.cells #[v] T)) := by
  show (w.heap.push _)[w.heap.size]? = _
  rw [Array.getElem?_push, if_pos rfl]
/-- The one block that is its own. -/
def One (c : Nat) (_ : World) (b : Nat) : Prop := b = c
theorem one_keep {c : Nat} {w w' : World} (k : Keep w w') : Apart (One c) w w' :=
  ⟨k.os, k.tape, k.output, k.size, fun b hb _ => k.block b hb, fun _ _ h => h⟩
theorem one_set (c : Nat) (w : World) (x : Value) : Apart (One c) w (w.setCell ⟨c, 0, none⟩ x) := by
  have k : Below c w (w.setCell ⟨c, 0, none⟩ x) := below_set w c 0 x
  refine ⟨k.os, k.tape, k.output, k.size, fun b _ ho => ?_, fun _ _ h => h⟩
  exact Below.heap_setCell _ _ _ _ (fun e => ho e)

/-- tooLarge's count. -/
def CountIs (c : Nat) (s : Int) (w : World) : Prop := VarAt c 3 (.int .i64 s) w ∧ 0 ≤ s
theorem set_alloc_post {c : Nat} {T : TypeId} {u : Value} {w : World} (h : VarAt c T u w) (x : Value) (o : Obj) : VarAt c T x ((w.setCell ⟨c, 0, none⟩ x).alloc o) ∧ Apart (One c) w ((w.setCell ⟨c, 0, none⟩ x).alloc o) := by
  have h1 := h.set x
  exact ⟨h1.keep (Keep.alloc _ o) h1.facts.2.2, (one_set c w x).trans (one_keep (Keep.alloc _ o))⟩
set_option maxHeartbeats 1000000 in
theorem count_call (c : Nat) (s : Int) (k : Int) (a : At) (fl : ByteArray) (nt : Bool) (kp : Option Addr) (len kc : Nat) (d : Int) (w : World) (hi : CountIs c s w) (hl : s ≤ 20) (t : NT) :
    Calls Tryz.prog 109 #[.agg #[.int .i64 k, .string a.n, .int .i64 a.op, .int .i64 a.v, .int .i64 a.sl, .string a.f, .bool a.on, .string fl, .bool nt, .slice kp len kc], .int .i64 d, .pointer (some ⟨c, 0, none⟩)] w
      fun e w' => WalkPost (CountIs c) (fun s => s ≤ 20) (One c) w (fN s t d) e w' := by
  obtain ⟨hv, h0⟩ := hi
  obtain ⟨hc, hz, hlt⟩ := hv.facts
  have HV : Hid (VarAt c 3 (.int .i64 s) w) := hv
  clear hv
  by_cases h20 : s + 1 ≤ 20
  · have HF : Hid (fN s t d = (s + 1, decide (d ≤ 4))) := by show _ = _; unfold fN; rw [decide_eq_true h20]; rfl
    go_enter Tryz.func109, Tryz.ntmps109
    go_wp2_with fail
    go_ret
    show WalkPost _ _ _ w (fN s t d) _ _
    rw [HF.out]
    exact ⟨rfl, ⟨(set_alloc_post HV.out _ _).1, by show 0 ≤ s + 1; omega⟩, fun _ => h20, (set_alloc_post HV.out _ _).2⟩
  · have HF : Hid (fN s t d = (s + 1, false)) := by show _ = _; unfold fN; rw [decide_eq_false h20]; rfl
    go_enter Tryz.func109, Tryz.ntmps109
    go_wp2_with fail
    go_ret
    show WalkPost _ _ _ w (fN s t d) _ _
    rw [HF.out]
    exact ⟨rfl, ⟨(set_alloc_post HV.out _ _).1, by show 0 ≤ s + 1; omega⟩, fun h => (by cases h), (set_alloc_post HV.out _ _).2⟩
theorem count_visits (c : Nat) (S : Nat → Prop) (hS : ∀ b, S b → b < c) : Visits 109 #[.pointer (some ⟨c, 0, none⟩)] S fN (CountIs c) (fun s => s ≤ 20) (One c) where
  keep s w w' hi k := ⟨⟨hi.1.keep k hi.1.facts.2.2, hi.2⟩, one_keep k, fun _ h => h⟩
  old s w hi b hb := ⟨Nat.lt_trans (hS b hb) hi.1.facts.2.2, fun e => absurd (hS b hb) (by rw [show b = c from e]; exact Nat.lt_irrefl _)⟩
  own s w hi b hb := by rw [show b = c from hb]; exact hi.1.facts.2.2
  call s t d cs w hi hl hn := by
    obtain ⟨k, a, fl, nt, kids⟩ := t
    rw [NeedIs] at hn
    obtain ⟨kp, kc, rfl, -, -, -⟩ := hn
    exact count_call c s k a fl nt kp kids.length kc d w hi hl _

theorem NeedIs.keep {S : Nat → Prop} {B : Nat} {w w' : World} (hS : ∀ b, S b → b < B) (k : Below B w w') {t : NT} {cs : List Value} (h : NeedIs S w t cs) : NeedIs S w' t cs :=
  NeedIs.mono (fun _ hp => k.cell (hS _ hp)) (fun _ h => h) t cs h
theorem alloc_size (w : World) (o : Obj) : (w.alloc o).heap.size = w.heap.size + 1 := by simp
theorem enter_count (args : Array Value) (w : World) : (callFunc 109 args).run Tryz.prog w = .ok (.enter 109 args) w := enters_of Tryz.func109 (by kernel_rfl) rfl args w
set_option maxHeartbeats 1000000 in
theorem tooLarge_any (t : NT) (cs : List Value) (w : World) (S : Nat → Prop) (hS : ∀ b, S b → b < w.heap.size) (hn : NeedIs S w t cs) :
    Calls Tryz.prog 57 #[.agg cs.toArray] w fun e w' => e = .returned (.bool (largeB t)) ∧ Keep w w' := by
  have hn' := hn
  obtain ⟨k, a, fl, nt, kids⟩ := t
  rw [NeedIs] at hn'
  obtain ⟨kp, kc, rfl, -, -, -⟩ := hn'
  have hmf : ∀ (fn : Fn) (first cap : Array Value) (w : World), (Instr.makeFunc fn first cap).run Tryz.prog w = .ok (.func fn first cap) w := fun _ _ _ _ => rfl
  have k1 := Keep.alloc w (.cells #[.int .i64 k, .string a.n, .int .i64 a.op, .int .i64 a.v, .int .i64 a.sl, .string a.f, .bool a.on, .string fl, .bool nt, .slice kp kids.length kc] 26)
  have e1 := alloc_size w (.cells #[.int .i64 k, .string a.n, .int .i64 a.op, .int .i64 a.v, .int .i64 a.sl, .string a.f, .bool a.on, .string fl, .bool nt, .slice kp kids.length kc] 26)
  have v2 := VarAt.new (w.alloc (.cells #[.int .i64 k, .string a.n, .int .i64 a.op, .int .i64 a.v, .int .i64 a.sl, .string a.f, .bool a.on, .string fl, .bool nt, .slice kp kids.length kc] 26)) 3 (.int .i64 0)
  have k2 := k1.alloc' (.cells #[.int .i64 0] 3)
  have HV2 : Hid (VarAt (w.heap.size + 1) 3 (.int .i64 0) ((w.alloc (.cells #[.int .i64 k, .string a.n, .int .i64 a.op, .int .i64 a.v, .int .i64 a.sl, .string a.f, .bool a.on, .string fl, .bool nt, .slice kp kids.length kc] 26)).alloc (.cells #[.int .i64 0] 3))) := e1 ▸ v2
  have HK2 : Hid (Keep w ((w.alloc (.cells #[.int .i64 k, .string a.n, .int .i64 a.op, .int .i64 a.v, .int .i64 a.sl, .string a.f, .bool a.on, .string fl, .bool nt, .slice kp kids.length kc] 26)).alloc (.cells #[.int .i64 0] 3))) := k2
  have HN : Hid (NeedIs S w (.node k a fl nt kids) [.int .i64 k, .string a.n, .int .i64 a.op, .int .i64 a.v, .int .i64 a.sl, .string a.f, .bool a.on, .string fl, .bool nt, .slice kp kids.length kc]) := hn
  clear k1 e1 v2 k2 hn
  go_enter Tryz.func57, Tryz.ntmps57
  go_wp2_with fail
  generalize (w.alloc (.cells #[.int .i64 k, .string a.n, .int .i64 a.op, .int .i64 a.v, .int .i64 a.sl, .string a.f, .bool a.on, .string fl, .bool nt, .slice kp kids.length kc] 26)).alloc (.cells #[.int .i64 0] 3) = W2 at HV2 HK2 ⊢
  refine (walk_any (count_visits (w.heap.size + 1) S (fun b hb => by have := hS b hb; omega)) enter_count _ _ (Nat.le_refl _) 0 1 _ W2 ⟨HV2.out, Int.le_refl 0⟩ (show (0 : Int) ≤ 20 by decide) (HN.out.keep hS HK2.out)).mono ?_
  rintro e w3 ⟨rfl, hi3, hl3, ha3⟩
  have K3 : Keep w w3 := Below.trans HK2.out (ha3.below HK2.out.size (fun b hb e => by have : b = w.heap.size + 1 := e; omega))
  clear hi3 hl3 ha3
  have HR : Hid (largeB (.node k a fl nt kids) = !(walkS inc64 fN 0 (.node k a fl nt kids) 1).2) := rfl
  go_wp2_with fail
  go_ret
  exact ⟨ret_bool HR.out.symm, K3⟩

/-- Check's error. -/
def ErrIs (c : Nat) (s : Int) (w : World) : Prop := VarAt c 27 (.int .i64 s) w
set_option maxHeartbeats 1000000 in
theorem err_call (c : Nat) (s : Int) (k : Int) (a : At) (fl : ByteArray) (nt : Bool) (kp : Option Addr) (kids : List NT) (kc : Nat) (d : Int) (w : World) (hi : ErrIs c s w) :
    Calls Tryz.prog 58 #[.agg #[.int .i64 k, .string a.n, .int .i64 a.op, .int .i64 a.v, .int .i64 a.sl, .string a.f, .bool a.on, .string fl, .bool nt, .slice kp kids.length kc], .int .i64 d, .pointer (some ⟨c, 0, none⟩)] w
      fun e w' => WalkPost (ErrIs c) (fun _ => True) (One c) w (fE s (.node k a fl nt kids) d) e w' := by
  have HV : Hid (VarAt c 27 (.int .i64 s) w) := hi
  have hlt := hi.facts.2.2
  have k1 := Keep.alloc w (.cells #[.int .i64 k, .string a.n, .int .i64 a.op, .int .i64 a.v, .int .i64 a.sl, .string a.f, .bool a.on, .string fl, .bool nt, .slice kp kids.length kc] 26)
  clear hi
  have HF : Hid (fE s (.node k a fl nt kids) d = (nodeE (.node k a fl nt kids), nodeE (.node k a fl nt kids) == 0)) := rfl
  go_enter Tryz.func58, Tryz.ntmps58
  go_wp2_with fail
  generalize w.alloc (.cells #[.int .i64 k, .string a.n, .int .i64 a.op, .int .i64 a.v, .int .i64 a.sl, .string a.f, .bool a.on, .string fl, .bool nt, .slice kp kids.length kc] 26) = W1 at k1 ⊢
  refine (checkNode_any _ _ _ _ _ _ _ _ _ _ _ _ _).mono ?_
  rintro e w2 ⟨rfl, k2⟩
  have K2 : Hid (Keep w w2) := k1.trans k2
  have HV2 : Hid (VarAt c 27 (.int .i64 s) w2) := HV.out.keep K2.out hlt
  obtain ⟨hc, hz, hlt2⟩ := HV2.out.facts
  clear k1 k2
  generalize nodeE (.node k a fl nt kids) = E at HF ⊢
  go_wp2_with fail
  go_ret
  show WalkPost _ _ _ w (fE s (.node k a fl nt kids) d) _ _
  rw [HF.out]
  exact ⟨rfl, HV2.out.set _, fun _ => trivial, (one_keep K2.out).trans (one_set c w2 _)⟩
theorem err_visits (c : Nat) (S : Nat → Prop) (hS : ∀ b, S b → b < c) : Visits 58 #[.pointer (some ⟨c, 0, none⟩)] S fE (ErrIs c) (fun _ => True) (One c) where
  keep s w w' hi k := ⟨VarAt.keep hi k hi.facts.2.2, one_keep k, fun _ h => h⟩
  old s w hi b hb := ⟨Nat.lt_trans (hS b hb) hi.facts.2.2, fun e => absurd (hS b hb) (by rw [show b = c from e]; exact Nat.lt_irrefl _)⟩
  own s w hi b hb := by rw [show b = c from hb]; exact hi.facts.2.2
  call s t d cs w hi hl hn := by
    obtain ⟨k, a, fl, nt, kids⟩ := t
    rw [NeedIs] at hn
    obtain ⟨kp, kc, rfl, -, -, -⟩ := hn
    exact err_call c s k a fl nt kp kids kc d w hi
theorem enter_err (args : Array Value) (w : World) : (callFunc 58 args).run Tryz.prog w = .ok (.enter 58 args) w := enters_of Tryz.func58 (by kernel_rfl) rfl args w

set_option maxHeartbeats 2000000 in
theorem needCheck_any (t : NT) (cs : List Value) (w : World) (S : Nat → Prop) (hS : ∀ b, S b → b < w.heap.size) (hn : NeedIs S w t cs) :
    Calls Tryz.prog 13 #[.agg cs.toArray] w fun e w' => e = .returned (.int .i64 (chkN t)) ∧ Keep w w' := by
  have hn' := hn
  obtain ⟨k, a, fl, nt, kids⟩ := t
  rw [NeedIs] at hn'
  obtain ⟨kp, kc, rfl, -, -, -⟩ := hn'
  have hmf : ∀ (fn : Fn) (first cap : Array Value) (w : World), (Instr.makeFunc fn first cap).run Tryz.prog w = .ok (.func fn first cap) w := fun _ _ _ _ => rfl
  have k1 := Keep.alloc w (.cells #[.int .i64 k, .string a.n, .int .i64 a.op, .int .i64 a.v, .int .i64 a.sl, .string a.f, .bool a.on, .string fl, .bool nt, .slice kp kids.length kc] 26)
  have hb0 : Hid (Boxed w.heap.size #[.int .i64 k, .string a.n, .int .i64 a.op, .int .i64 a.v, .int .i64 a.sl, .string a.f, .bool a.on, .string fl, .bool nt, .slice kp kids.length kc] (w.alloc (.cells #[.int .i64 k, .string a.n, .int .i64 a.op, .int .i64 a.v, .int .i64 a.sl, .string a.f, .bool a.on, .string fl, .bool nt, .slice kp kids.length kc] 26))) := Boxed.new w #[.int .i64 k, .string a.n, .int .i64 a.op, .int .i64 a.v, .int .i64 a.sl, .string a.f, .bool a.on, .string fl, .bool nt, .slice kp kids.length kc] 26
  have HN : Hid (NeedIs S w (.node k a fl nt kids) [.int .i64 k, .string a.n, .int .i64 a.op, .int .i64 a.v, .int .i64 a.sl, .string a.f, .bool a.on, .string fl, .bool nt, .slice kp kids.length kc]) := hn
  clear hn
  go_enter Tryz.func13, Tryz.ntmps13
  go_wp2_with fail
  generalize w.alloc (.cells #[.int .i64 k, .string a.n, .int .i64 a.op, .int .i64 a.v, .int .i64 a.sl, .string a.f, .bool a.on, .string fl, .bool nt, .slice kp kids.length kc] 26) = W1 at k1 hb0 ⊢
  refine (tooLarge_any _ _ W1 S (fun b hb => Nat.lt_of_lt_of_le (hS b hb) k1.size) (HN.out.keep hS k1)).mono ?_
  rintro e w2 ⟨rfl, k2⟩
  have K2 : Hid (Keep w w2) := k1.trans k2
  have HB2 : Hid (Boxed w.heap.size #[.int .i64 k, .string a.n, .int .i64 a.op, .int .i64 a.v, .int .i64 a.sl, .string a.f, .bool a.on, .string fl, .bool nt, .slice kp kids.length kc] w2) := hb0.out.keep k2 hb0.out.1
  have hc2 := HB2.out.2
  have hlt2 := HB2.out.1
  clear k1 k2 hb0
  cases hL : largeB (.node k a fl nt kids)
  · have HC : Hid (chkN (.node k a fl nt kids) = (walkS inc64 fE 0 (.node k a fl nt kids) 1).1) := by show _ = _; unfold chkN; rw [hL]; rfl
    have HV3 : Hid (VarAt w2.heap.size 27 (.int .i64 0) (w2.alloc (.cells #[.int .i64 0] 27))) := VarAt.new w2 _ _
    have K3 : Hid (Keep w (w2.alloc (.cells #[.int .i64 0] 27))) := K2.out.alloc' _
    go_wp2_with fail
    generalize w2.alloc (.cells #[.int .i64 0] 27) = W3 at HV3 K3 ⊢
    clear hc2
    refine (walk_any (err_visits w2.heap.size S (fun b hb => Nat.lt_of_lt_of_le (hS b hb) K2.out.size)) enter_err _ _ (Nat.le_refl _) 0 1 _ W3 HV3.out trivial (HN.out.keep hS K3.out)).mono ?_
    rintro e w4 ⟨rfl, hi4, hl4, ha4⟩
    have K4 : Hid (Keep w w4) := Below.trans K3.out (ha4.below K3.out.size (fun b hb e => by have : b = w2.heap.size := e; have := K2.out.size; omega))
    obtain ⟨hc4, -, hlt4⟩ := VarAt.facts hi4
    clear hl4 ha4
    generalize walkS inc64 fE 0 (.node k a fl nt kids) 1 = r at HC hc4 ⊢
    go_wp2_with fail
    go_ret
    exact ⟨ret_int HC.out.symm, K4.out⟩
  · have HC : Hid (chkN (.node k a fl nt kids) = 2) := by show _ = _; unfold chkN; rw [hL]; rfl
    go_wp2_with fail
    go_ret
    exact ⟨ret_int HC.out.symm, K2.out⟩
end Go.Proofs.YtnagpmilagdjeaaGreatDoor
