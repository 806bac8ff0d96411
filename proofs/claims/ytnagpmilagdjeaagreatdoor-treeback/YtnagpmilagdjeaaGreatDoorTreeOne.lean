/- Rows of texts and rows of packages as they lie in memory. -/
import Derived.Test.YtnagpmilagdjeaaGreatDoorTreeSpec
import Derived.BigQuiet
namespace Go.Proofs.YtnagpmilagdjeaaGreatDoor
open Go.RowKit

/-- The value leads to a row of these texts, in blocks of S. -/
def StrsIs (S : Nat → Prop) (w : World) (fs : List ByteArray) (v : Value) : Prop :=
  (fs = [] ∧ ∃ p cap, v = .slice p 0 cap) ∨ ∃ (b off cap : Nat), v = .slice (some ⟨b, off, none⟩) fs.length cap ∧ (S b ∧ fs.length ≤ cap) ∧ fs.length ≤ 9223372036854775807 ∧ ∀ (j : Nat) (x : ByteArray), fs[j]? = some x → w.cell? ⟨b, off + j, none⟩ = some (.string x)
/-- These fourteen cells say the package. -/
def PkgIs (S : Nat → Prop) (w : World) (p : PK) (cs : List Value) : Prop :=
  ∃ (fv : Value) (nv : List Value), cs = .string p.n :: .int .i64 p.v :: .int .i64 p.sl :: fv :: nv ∧ StrsIs S w p.fl fv ∧ NeedIs S w p.nd nv
/-- The value leads to a row of these packages. -/
def PkgsIs (S : Nat → Prop) (w : World) (ps : List PK) (v : Value) : Prop :=
  (ps = [] ∧ ∃ p cap, v = .slice p 0 cap) ∨ ∃ (b off cap : Nat), v = .slice (some ⟨b, off, none⟩) ps.length cap ∧ S b ∧ ps.length ≤ 9223372036854775807 ∧
    ∀ (j : Nat) (h : j < ps.length), ∃ cs : List Value, (∀ (m : Nat) (x : Value), cs[m]? = some x → w.cell? ⟨b, off + j * 14 + m, none⟩ = some x) ∧ PkgIs S w ps[j] cs
theorem StrsIs.mono {S S' : Nat → Prop} {w w' : World} (hw : ∀ p : Addr, S p.block → w'.cell? p = w.cell? p) (hS : ∀ b, S b → S' b) {fs : List ByteArray} {v : Value} (h : StrsIs S w fs v) : StrsIs S' w' fs v := by
  rcases h with h | ⟨b, off, cap, h1, h2, h3, h4⟩
  · exact Or.inl h
  · exact Or.inr ⟨b, off, cap, h1, ⟨hS _ h2.1, h2.2⟩, h3, fun j x hx => (hw _ h2.1).trans (h4 j x hx)⟩
theorem PkgIs.mono {S S' : Nat → Prop} {w w' : World} (hw : ∀ p : Addr, S p.block → w'.cell? p = w.cell? p) (hS : ∀ b, S b → S' b) {p : PK} {cs : List Value} (h : PkgIs S w p cs) : PkgIs S' w' p cs := by
  obtain ⟨fv, nv, h1, h2, h3⟩ := h
  exact ⟨fv, nv, h1, h2.mono hw hS, NeedIs.mono hw hS _ _ h3⟩
theorem PkgsIs.mono {S S' : Nat → Prop} {w w' : World} (hw : ∀ p : Addr, S p.block → w'.cell? p = w.cell? p) (hS : ∀ b, S b → S' b) {ps : List PK} {v : Value} (h : PkgsIs S w ps v) : PkgsIs S' w' ps v := by
  rcases h with h | ⟨b, off, cap, h1, h2, h3, h4⟩
  · exact Or.inl h
  · refine Or.inr ⟨b, off, cap, h1, hS _ h2, h3, fun j hj => ?_⟩
    obtain ⟨cs, h5, h6⟩ := h4 j hj
    exact ⟨cs, fun m x hx => (hw _ h2).trans (h5 m x hx), h6.mono hw hS⟩
theorem below_cells {S : Nat → Prop} {B : Nat} {w w' : World} (hS : ∀ b, S b → b < B) (k : Below B w w') : ∀ p : Addr, S p.block → w'.cell? p = w.cell? p :=
  fun p hp => k.cell (p := p) (hS _ hp)
theorem StrsIs.keep {S : Nat → Prop} {B : Nat} {w w' : World} (hS : ∀ b, S b → b < B) (k : Below B w w') {fs : List ByteArray} {v : Value} (h : StrsIs S w fs v) : StrsIs S w' fs v := h.mono (below_cells hS k) fun _ h => h
theorem PkgIs.keep {S : Nat → Prop} {B : Nat} {w w' : World} (hS : ∀ b, S b → b < B) (k : Below B w w') {p : PK} {cs : List Value} (h : PkgIs S w p cs) : PkgIs S w' p cs := h.mono (below_cells hS k) fun _ h => h
theorem PkgsIs.keep {S : Nat → Prop} {B : Nat} {w w' : World} (hS : ∀ b, S b → b < B) (k : Below B w w') {ps : List PK} {v : Value} (h : PkgsIs S w ps v) : PkgsIs S w' ps v := h.mono (below_cells hS k) fun _ h => h
theorem StrsIs.len {S : Nat → Prop} {w : World} {fs : List ByteArray} {v : Value} (h : StrsIs S w fs v) : ∃ p cap, v = .slice p fs.length cap ∧ fs.length ≤ 9223372036854775807 := by
  rcases h with ⟨rfl, p, cap, h⟩ | ⟨b, off, cap, h1, _, h3, _⟩
  · exact ⟨p, cap, h, by simp⟩
  · exact ⟨_, cap, h1, h3⟩
theorem PkgsIs.len {S : Nat → Prop} {w : World} {ps : List PK} {v : Value} (h : PkgsIs S w ps v) : ∃ p cap, v = .slice p ps.length cap ∧ ps.length ≤ 9223372036854775807 := by
  rcases h with ⟨rfl, p, cap, h⟩ | ⟨b, off, cap, h1, _, h3, _⟩
  · exact ⟨p, cap, h, by simp⟩
  · exact ⟨_, cap, h1, h3⟩
theorem StrsIs.get {S : Nat → Prop} {w : World} {fs : List ByteArray} {v : Value} (h : StrsIs S w fs v) {j : Nat} (hj : j < fs.length) :
    ∃ (b off cap : Nat), v = .slice (some ⟨b, off, none⟩) fs.length cap ∧ S b ∧ fs.length ≤ 9223372036854775807 ∧ ∀ (j : Nat) (x : ByteArray), fs[j]? = some x → w.cell? ⟨b, off + j, none⟩ = some (.string x) := by
  rcases h with ⟨rfl, _⟩ | ⟨b, off, cap, h1, h2, h3, h4⟩
  · exact absurd hj (Nat.not_lt_zero _)
  · exact ⟨b, off, cap, h1, h2.1, h3, h4⟩
theorem StrsIs.row {S : Nat → Prop} {w : World} {fs : List ByteArray} {v : Value} (h : StrsIs S w fs v) (hj : 0 < fs.length) :
    ∃ (b off cap : Nat), v = .slice (some ⟨b, off, none⟩) fs.length cap ∧ S b ∧ fs.length ≤ cap ∧ ∀ (j : Nat) (x : ByteArray), fs[j]? = some x → w.cell? ⟨b, off + j, none⟩ = some (.string x) := by
  rcases h with ⟨rfl, _⟩ | ⟨b, off, cap, h1, h2, h3, h4⟩
  · exact absurd hj (Nat.not_lt_zero _)
  · exact ⟨b, off, cap, h1, h2.1, h2.2, h4⟩
theorem PkgsIs.get {S : Nat → Prop} {w : World} {ps : List PK} {v : Value} (h : PkgsIs S w ps v) {j : Nat} (hj : j < ps.length) :
    ∃ (b off cap : Nat), v = .slice (some ⟨b, off, none⟩) ps.length cap ∧ S b ∧ ps.length ≤ 9223372036854775807 ∧
    ∀ (j : Nat) (h : j < ps.length), ∃ cs : List Value, (∀ (m : Nat) (x : Value), cs[m]? = some x → w.cell? ⟨b, off + j * 14 + m, none⟩ = some x) ∧ PkgIs S w ps[j] cs := by
  rcases h with ⟨rfl, _⟩ | h
  · exact absurd hj (Nat.not_lt_zero _)
  · exact h
theorem getD_ba (zs : List ByteArray) (j : Nat) (h : j < zs.length) : zs.getD j ByteArray.empty = zs[j] := by
  rw [List.getD_eq_getElem?_getD, List.getElem?_eq_getElem h, Option.getD_some]
theorem StrsIs.getD {w : World} {fs : List ByteArray} {b off : Nat} (h : ∀ (j : Nat) (x : ByteArray), fs[j]? = some x → w.cell? ⟨b, off + j, none⟩ = some (.string x)) : ∀ j, j < fs.length → w.cell? ⟨b, off + j, none⟩ = some (.string (fs.getD j ByteArray.empty)) :=
  fun j hj => by rw [getD_ba fs j hj]; exact h j _ (List.getElem?_eq_getElem hj)
end Go.Proofs.YtnagpmilagdjeaaGreatDoor
/- tree.oneByOne asks one thing after another and answers with the first error, whatever function is handed to it that keeps to a plain one; tree.checkFlags answers as the plain function chkFs says. -/
namespace Go.Proofs.YtnagpmilagdjeaaGreatDoor
open Go.RowKit

set_option maxHeartbeats 2000000 in
set_option maxRecDepth 100000 in
theorem oneByOne_any {F : Nat} {cap : Array Value} (n : Nat) (f : Nat → Int) (Inv : Nat → World → Prop) (c : Nat) (hn : n ≤ 9223372036854775807)
    (hF : ∀ args w, (callFunc F args).run Tryz.prog w = .ok (.enter F args) w)
    (hc : ∀ k w, k < n → Inv k w → Calls Tryz.prog F (#[.int .i64 k] ++ cap) w fun e w' => e = .returned (.int .i64 (f k)) ∧ (f k = 0 → Inv (k + 1) w') ∧ Apart (One c) w w') (w : World) (h0 : Inv 0 w) :
    Calls Tryz.prog 77 #[.int .i64 n, .func (.func F) #[] cap] w fun e w' => e = .returned (.int .i64 (firstE f 0 n)) ∧ Apart (One c) w w' := by
  have HC := hid hc
  have HI := hid h0
  clear hc h0
  go_enter Tryz.func77, Tryz.ntmps77
  go_wp2_with fail
  go_loopg [8] n (fun gk i wr => ∃ j : Nat, j + gk = n ∧ i = .int .i64 j ∧ Inv j wr ∧ firstE f 0 n = firstE f j (n - j) ∧ Apart (One c) w wr)
  case atStart => exact ⟨0, by simp, rfl, HI.out, rfl, Apart.refl _ _⟩
  case round =>
    obtain ⟨j, hj, rfl, hi, he, ha⟩ := hrel
    have HEQ := hid he
    have HA := hid ha
    clear he ha HI
    by_cases hlt : j < n
    · have HCALL := hid (HC.out j wr hlt hi)
      have HST := hid (firstE_step (f := f) hlt)
      clear hi
      go_wp2_with fail
      refine HCALL.out.mono ?_
      rintro e w1 ⟨rfl, hi1, ha1⟩
      have HI1 := hid hi1
      have HA1 := hid (HA.out.trans ha1)
      clear hi1 ha1 HCALL
      by_cases hz : f j = 0
      · have HZ := hid hz
        have hz1 : (f j == 0) = true := by simp [hz]
        have hz2 : (f j != 0) = false := by simp [hz]
        clear hz
        go_wp2_with fail
        go_roundg (n - (j + 1))
        case rel => exact ⟨j + 1, by omega, by go_num, HI1.out HZ.out, by rw [HEQ.out, HST.out, if_pos HZ.out], HA1.out⟩
        case measure => omega
      · have HZ := hid hz
        have hz1 : (f j == 0) = false := by simp [hz]
        have hz2 : (f j != 0) = true := by simp [hz]
        clear hz
        go_wp2_with fail
        go_ret
        exact ⟨ret_int (by rw [HEQ.out, HST.out, if_neg HZ.out]), HA1.out⟩
    · go_wp2_with fail
      go_ret
      exact ⟨ret_int (by rw [HEQ.out, show n - j = 0 by omega]; rfl), HA.out⟩

set_option maxHeartbeats 2000000 in
set_option maxRecDepth 100000 in
theorem flag1_any (S : Nat → Prop) (fs : List ByteArray) (c k : Nat) (v : Value) (w : World) (hk : k < fs.length) (hv : VarAt c 32 v w) (hs : StrsIs S w fs v) :
    Calls Tryz.prog 171 #[.int .i64 k, .pointer (some ⟨c, 0, none⟩)] w fun e w' => e = .returned (.int .i64 (flE fs k)) ∧ Keep w w' := by
  obtain ⟨b, off, cap, rfl, hb, hlen, hcell⟩ := hs.get hk
  obtain ⟨hc0, -, hcl⟩ := hv.facts
  have hck := hcell k _ (List.getElem?_eq_getElem hk)
  have HFL : Hid (flE fs k = if nameB fs[k].data.toList = false then 1 else if 0 < k ∧ leS fs[k] (fs.getD (k - 1) ⟨#[]⟩) = true then 6 else 0) := by
    show _ = _
    unfold flE
    rw [List.getD_eq_getElem?_getD, List.getElem?_eq_getElem hk, Option.getD_some]
  have hck1 : 0 < k → ∃ x : ByteArray, Hid (fs.getD (k - 1) ⟨#[]⟩ = x) ∧ w.cell? ⟨b, off + (k - 1), none⟩ = some (.string x) := fun h0 =>
    ⟨fs[k - 1], by show _ = _; rw [List.getD_eq_getElem?_getD, List.getElem?_eq_getElem (by omega), Option.getD_some], hcell (k - 1) _ (List.getElem?_eq_getElem (by omega))⟩
  clear hcell hs hv
  generalize fs[k] = x at hck HFL
  go_enter Tryz.func171, Tryz.ntmps171
  go_wp2_with fail
  refine (name_any x w).mono ?_
  rintro e w1 ⟨rfl, hw⟩
  subst hw
  cases hnm : nameB x.data.toList
  · rw [hnm] at HFL
    go_wp2_with fail
    go_ret
    exact ⟨ret_int (by rw [HFL.out]; rfl), Keep.refl _⟩
  · rw [hnm] at HFL
    by_cases h0 : 0 < k
    · obtain ⟨y, HY, hcy⟩ := hck1 h0
      rw [HY.out] at HFL
      obtain ⟨m, rfl⟩ : ∃ m, k = m + 1 := ⟨k - 1, by omega⟩
      have h0' : (0 : Int) < ((m + 1 : Nat) : Int) := by omega
      have hd : decide ((0 : Int) < ((m + 1 : Nat) : Int)) = true := decide_eq_true h0'
      have hcy' : w1.cell? ⟨b, off + m, none⟩ = some (.string y) := hcy
      have e1 : ((m + 1 : Nat) : Int) - 1 = (m : Int) := by omega
      have hm : m < fs.length := by omega
      clear hck1 HY hcy
      go_wp2_with fail
      go_quiet (fail)
      cases hle : leS x y
      · have HX : Hid (flE fs (m + 1) = 0) := by show _ = _; rw [HFL.out, hle]; simp
        have hle' : (Op.bytesLess x.toList y.toList || x.toList == y.toList) = false := hle
        rw [hle']
        clear hle hle' HFL
        go_wp2_with fail
        go_ret
        exact ⟨ret_int HX.out.symm, Keep.drewN (Keep.refl _) _⟩
      · have HX : Hid (flE fs (m + 1) = 6) := by show _ = _; rw [HFL.out, hle]; simp
        have hle' : (Op.bytesLess x.toList y.toList || x.toList == y.toList) = true := hle
        rw [hle']
        clear hle hle' HFL
        go_wp2_with fail
        go_ret
        exact ⟨ret_int HX.out.symm, Keep.drewN (Keep.refl _) _⟩
    · have hd : decide ((0 : Int) < (k : Int)) = false := decide_eq_false (by omega)
      have HX : Hid (flE fs k = 0) := by show _ = _; rw [HFL.out]; simp [h0]
      clear HFL hck1
      go_wp2_with fail
      go_quiet (fail)
      go_wp2_with fail
      go_ret
      exact ⟨ret_int HX.out.symm, Keep.drewN (Keep.refl _) _⟩

theorem enter_flag1 (args : Array Value) (w : World) : (callFunc 171 args).run Tryz.prog w = .ok (.enter 171 args) w := enters_of Tryz.func171 (by kernel_rfl) rfl args w

set_option maxHeartbeats 2000000 in
set_option maxRecDepth 100000 in
theorem flags_any (S : Nat → Prop) (fs : List ByteArray) (v : Value) (w : World) (hS : ∀ b, S b → b < w.heap.size) (hs : StrsIs S w fs v) :
    Calls Tryz.prog 124 #[v] w fun e w' => e = .returned (.int .i64 (chkFs fs)) ∧ Keep w w' := by
  have HS := hid hs
  obtain ⟨p, cap, rfl, hlen⟩ := hs.len
  have hmf : ∀ (fn : Fn) (first cap : Array Value) (w : World), (Instr.makeFunc fn first cap).run Tryz.prog w = .ok (.func fn first cap) w := fun _ _ _ _ => rfl
  have hent := enter_flag1
  have k0 := hid (Keep.alloc w (.cells #[.slice p fs.length cap] 32))
  have v0 := hid (VarAt.new w 32 (.slice p fs.length cap))
  clear hs
  by_cases h2 : 2 < fs.length
  · have h2' : (2 : Int) < (fs.length : Int) := by omega
    have HX : Hid (chkFs fs = 2) := by show _ = _; unfold chkFs; rw [if_pos h2]
    go_enter Tryz.func124, Tryz.ntmps124
    go_wp2_with fail
    go_ret
    exact ⟨ret_int HX.out.symm, k0.out⟩
  · have h2' : ¬ (2 : Int) < (fs.length : Int) := by omega
    have HX : Hid (chkFs fs = firstE (flE fs) 0 fs.length) := by show _ = _; unfold chkFs; rw [if_neg h2]
    have hcall : ∀ (k : Nat) (W' : World), k < fs.length → Keep w W' ∧ VarAt w.heap.size 32 (.slice p fs.length cap) W' → Calls Tryz.prog 171 (#[.int .i64 k] ++ #[.pointer (some ⟨w.heap.size, 0, none⟩)]) W' fun e w' => e = .returned (.int .i64 (flE fs k)) ∧ (flE fs k = 0 → Keep w w' ∧ VarAt w.heap.size 32 (.slice p fs.length cap) w') ∧ Apart (One w.heap.size) W' w' := by
      rintro k W' hk ⟨h1, h3⟩
      have c := flag1_any S fs w.heap.size k _ W' hk h3 (HS.out.keep hS h1)
      refine Calls.mono c ?_
      rintro e w' ⟨rfl, h4⟩
      exact ⟨rfl, fun _ => ⟨Below.trans h1 (h4.mono h1.size), h3.keep h4 h3.facts.2.2⟩, one_keep h4⟩
    have hone := hid (fun W h => oneByOne_any fs.length (flE fs) (fun _ W' => Keep w W' ∧ VarAt w.heap.size 32 (.slice p fs.length cap) W') w.heap.size hlen enter_flag1 hcall W h)
    clear hcall
    clear h2
    go_enter Tryz.func124, Tryz.ntmps124
    go_wp2_with fail
    refine (hone.out _ ⟨k0.out, v0.out⟩).mono ?_
    rintro e w1 ⟨rfl, ha1⟩
    have K1 : Hid (Keep w w1) := Below.trans k0.out (ha1.below k0.out.size fun b hb e => by have : b = w.heap.size := e; omega)
    clear ha1 hone k0 v0
    go_wp2_with fail
    go_ret
    exact ⟨ret_int HX.out.symm, K1.out⟩
end Go.Proofs.YtnagpmilagdjeaaGreatDoor
