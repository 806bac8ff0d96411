/- The reader of words: next hands on the words one by one; leaf reads an atom's word. -/
import Derived.Test.YtnagpmilagdjeaaGreatDoorNeedPrint
namespace Go.Proofs.YtnagpmilagdjeaaGreatDoor
open Go.RowKit

/-- The reader at block rb has these words left. -/
def RdAt (rb : Nat) (ws : List ByteArray) (w : World) : Prop :=
  ∃ (p : Option Addr) (cap : Nat), VarAt rb 78 (.slice p ws.length cap) w ∧ ws.length ≤ cap ∧ cap ≤ 1000000 ∧ (ws ≠ [] → ∃ b o, p = some ⟨b, o, none⟩ ∧ b < rb ∧ ∀ (j : Nat) x, ws[j]? = some x → w.cell? ⟨b, o + j, none⟩ = some (.string x))
theorem RdAt.lt {rb : Nat} {ws : List ByteArray} {w : World} (h : RdAt rb ws w) : rb < w.heap.size := by
  obtain ⟨p, cap, h1, -⟩ := h; exact h1.facts.2.2
theorem RdAt.keep {rb : Nat} {ws : List ByteArray} {w w' : World} (h : RdAt rb ws w) (k : Keep w w') : RdAt rb ws w' := by
  obtain ⟨p, cap, h1, h2, h3, h4⟩ := h
  refine ⟨p, cap, h1.keep k h1.facts.2.2, h2, h3, fun hne => ?_⟩
  obtain ⟨b, o, e1, e2, e4⟩ := h4 hne
  exact ⟨b, o, e1, e2, fun j x hx => (k.cell (p := ⟨b, o + j, none⟩) (Nat.lt_trans e2 h1.facts.2.2)).trans (e4 j x hx)⟩
theorem rd_next {rb b o cap : Nat} {x : ByteArray} {ws : List ByteArray} {w : World} {v : Value} (h1 : VarAt rb 78 v w) (h2 : ws.length ≤ cap) (h3 : cap ≤ 1000000) (hb : b < rb)
    (hcells : ∀ (j : Nat) y, (x :: ws)[j]? = some y → w.cell? ⟨b, o + j, none⟩ = some (.string y)) (q : Addr) (hq : ws ≠ [] → q = ⟨b, o + 1, none⟩) :
    RdAt rb ws (w.setCell ⟨rb, 0, none⟩ (.slice (some q) ws.length cap)) := by
  refine ⟨some q, cap, h1.set _, h2, h3, fun hne' => ?_⟩
  refine ⟨b, o + 1, by rw [hq hne'], hb, fun j y hy => ?_⟩
  rw [(one_set rb w (.slice (some q) ws.length cap)).cell ⟨b, o + 1 + j, none⟩ (Nat.lt_trans hb h1.facts.2.2) (fun e => by have : b = rb := e; omega)]
  have := hcells (j + 1) y (by simpa using hy)
  rw [show o + (j + 1) = o + 1 + j by omega] at this
  exact this

set_option maxHeartbeats 1000000 in
theorem next_any (rb : Nat) (ws : List ByteArray) (w : World) (h : RdAt rb ws w) :
    Calls Tryz.prog 48 #[.pointer (some ⟨rb, 0, none⟩)] w fun e w' => e = .returned (.string (ws.headD ⟨#[]⟩)) ∧ RdAt rb ws.tail w' ∧ Apart (One rb) w w' := by
  obtain ⟨p, cap, h1, h2, h3, h4⟩ := h
  obtain ⟨hc, hz, hlt⟩ := h1.facts
  have H1 := hid h1
  clear h1
  cases ws with
  | nil =>
    have HR : Hid (RdAt rb [] w) := ⟨p, cap, H1.out, h2, h3, h4⟩
    clear h4 h2
    go_enter Tryz.func48, Tryz.ntmps48
    go_wp2_with fail
    go_ret
    exact ⟨rfl, HR.out, Apart.refl _ _⟩
  | cons x ws =>
    obtain ⟨b, o, rfl, hb, hcells⟩ := h4 (by simp)
    have hne : b ≠ rb := Nat.ne_of_lt hb
    have c0 : w.cell? ⟨b, o, none⟩ = some (.string x) := hcells 0 x rfl
    have HC : Hid (∀ (j : Nat) y, (x :: ws)[j]? = some y → w.cell? ⟨b, o + j, none⟩ = some (.string y)) := hcells
    clear h4 hcells
    rw [List.length_cons] at h2 hc H1
    by_cases hcap : cap = 1
    · subst hcap
      obtain rfl : ws = [] := List.length_eq_zero_iff.1 (by omega)
      go_enter Tryz.func48, Tryz.ntmps48
      go_wp2_with fail
      go_ret
      exact ⟨rfl, rd_next (ws := []) H1.out (Nat.le_refl _) (by decide) hb HC.out _ (fun h => absurd rfl h), one_set rb w _⟩
    · have hc1 : 1 < cap := by omega
      go_enter Tryz.func48, Tryz.ntmps48
      go_wp2_with fail
      go_ret
      exact ⟨rfl, rd_next H1.out (by omega) (by omega) hb HC.out _ (fun _ => rfl), one_set rb w _⟩

/-- A need's ten cells, at block b. -/
def NBox (b : Nat) (cs : Array Value) (w : World) : Prop := w.heap[b]? = some (.cells cs 26 (0, 0))
theorem NBox.facts {b : Nat} {cs : Array Value} {w : World} (h : NBox b cs w) : (∀ o, w.cell? ⟨b, o, none⟩ = cs[o]?) ∧ (∀ o, w.frozen? ⟨b, o, none⟩ = false) ∧ b < w.heap.size := by
  unfold NBox at h
  refine ⟨fun o => by simp [World.cell?, h], fun o => by simp [World.frozen?, h], (Array.getElem?_eq_some_iff.1 h).1⟩
theorem NBox.new (w : World) (cs : Array Value) : NBox w.heap.size cs (w.alloc (.cells cs 26)) := by
  show (w.heap.push _)[w.heap.size]? = _
  rw [Array.getElem?_push, if_pos rfl]
theorem NBox.keep {b B : Nat} {cs : Array Value} {w w' : World} (h : NBox b cs w) (k : Below B w w') (hB : b < B) : NBox b cs w' := by
  unfold NBox at *; rw [k.block b hB]; exact h
theorem array10 {α : Type} {cs : Array α} (h : cs.size = 10) : ∃ c0 c1 c2 c3 c4 c5 c6 c7 c8 c9, cs = #[c0, c1, c2, c3, c4, c5, c6, c7, c8, c9] := by
  obtain ⟨l⟩ := cs
  match l, h with
  | [c0, c1, c2, c3, c4, c5, c6, c7, c8, c9], _ => exact ⟨c0, c1, c2, c3, c4, c5, c6, c7, c8, c9, rfl⟩
set_option maxHeartbeats 1000000 in
/-- A store of a whole need. -/
theorem NBox.set {b : Nat} {cs : Array Value} {w : World} (h : NBox b cs w) (hs : cs.size = 10) (v0 v1 v2 v3 v4 v5 v6 v7 v8 v9 : Value) :
    NBox b #[v0, v1, v2, v3, v4, v5, v6, v7, v8, v9] ((((((((((w.setCell ⟨b, 0, none⟩ v0).setCell ⟨b, 1, none⟩ v1).setCell ⟨b, 2, none⟩ v2).setCell ⟨b, 3, none⟩ v3).setCell ⟨b, 4, none⟩ v4).setCell ⟨b, 5, none⟩ v5).setCell ⟨b, 6, none⟩ v6).setCell ⟨b, 7, none⟩ v7).setCell ⟨b, 8, none⟩ v8).setCell ⟨b, 9, none⟩ v9) ∧ Below b w ((((((((((w.setCell ⟨b, 0, none⟩ v0).setCell ⟨b, 1, none⟩ v1).setCell ⟨b, 2, none⟩ v2).setCell ⟨b, 3, none⟩ v3).setCell ⟨b, 4, none⟩ v4).setCell ⟨b, 5, none⟩ v5).setCell ⟨b, 6, none⟩ v6).setCell ⟨b, 7, none⟩ v7).setCell ⟨b, 8, none⟩ v8).setCell ⟨b, 9, none⟩ v9) ∧ ((((((((((w.setCell ⟨b, 0, none⟩ v0).setCell ⟨b, 1, none⟩ v1).setCell ⟨b, 2, none⟩ v2).setCell ⟨b, 3, none⟩ v3).setCell ⟨b, 4, none⟩ v4).setCell ⟨b, 5, none⟩ v5).setCell ⟨b, 6, none⟩ v6).setCell ⟨b, 7, none⟩ v7).setCell ⟨b, 8, none⟩ v8).setCell ⟨b, 9, none⟩ v9).heap.size = w.heap.size ∧ ∀ k, k ≠ b → ((((((((((w.setCell ⟨b, 0, none⟩ v0).setCell ⟨b, 1, none⟩ v1).setCell ⟨b, 2, none⟩ v2).setCell ⟨b, 3, none⟩ v3).setCell ⟨b, 4, none⟩ v4).setCell ⟨b, 5, none⟩ v5).setCell ⟨b, 6, none⟩ v6).setCell ⟨b, 7, none⟩ v7).setCell ⟨b, 8, none⟩ v8).setCell ⟨b, 9, none⟩ v9).heap[k]? = w.heap[k]? := by
  obtain ⟨c0, c1, c2, c3, c4, c5, c6, c7, c8, c9, rfl⟩ := array10 hs
  refine ⟨?_, ?_, ?_, ?_⟩
  · have h10 := heap_set (heap_set (heap_set (heap_set (heap_set (heap_set (heap_set (heap_set (heap_set (heap_set h 0 v0) 1 v1) 2 v2) 3 v3) 4 v4) 5 v5) 6 v6) 7 v7) 8 v8) 9 v9
    simp only [List.setIfInBounds_toArray, List.set_cons_zero, List.set_cons_succ] at h10
    exact h10
  · exact ((((((((((Below.refl b w).setCell (p := ⟨b, 0, none⟩) (Nat.le_refl _) v0).setCell (p := ⟨b, 1, none⟩) (Nat.le_refl _) v1).setCell (p := ⟨b, 2, none⟩) (Nat.le_refl _) v2).setCell (p := ⟨b, 3, none⟩) (Nat.le_refl _) v3).setCell (p := ⟨b, 4, none⟩) (Nat.le_refl _) v4).setCell (p := ⟨b, 5, none⟩) (Nat.le_refl _) v5).setCell (p := ⟨b, 6, none⟩) (Nat.le_refl _) v6).setCell (p := ⟨b, 7, none⟩) (Nat.le_refl _) v7).setCell (p := ⟨b, 8, none⟩) (Nat.le_refl _) v8).setCell (p := ⟨b, 9, none⟩) (Nat.le_refl _) v9
  · simp [World.setCell]
  · intro k hk
    simp [World.setCell, Array.getElem?_modify, Ne.symm hk]

/-- A need that is nothing. -/
def zeroV : Value := .agg #[.int .i64 0, .string ⟨#[]⟩, .int .i64 0, .int .i64 0, .int .i64 0, .string ⟨#[]⟩, .bool false, .string ⟨#[]⟩, .bool false, .slice none 0 0]
/-- What leaf answers. -/
def LeafDone (wd : Word) (w : World) (e : Ending) (w' : World) : Prop :=
  match rdLeaf wd with
  | none => e = .returned (.tuple #[zeroV, .bool false]) ∧ Keep w w'
  | some t => ∃ cs : List Value, e = .returned (.tuple #[.agg cs.toArray, .bool true]) ∧ (∀ S, NeedIs S w' t cs) ∧ Keep w w'

set_option maxHeartbeats 4000000 in
theorem leaf_any (wd : ByteArray) (w : World) (hE : Env w) :
    Calls Tryz.prog 104 #[.string wd] w fun e w' => LeafDone wd.data.toList w e w' := by
  have HE := hid hE
  have r0 : Hid (NBox w.heap.size #[.int .i64 0, .string ⟨#[]⟩, .int .i64 0, .int .i64 0, .int .i64 0, .string ⟨#[]⟩, .bool false, .string ⟨#[]⟩, .bool false, .slice none 0 0] (w.alloc (.cells #[.int .i64 0, .string ⟨#[]⟩, .int .i64 0, .int .i64 0, .int .i64 0, .string ⟨#[]⟩, .bool false, .string ⟨#[]⟩, .bool false, .slice none 0 0] 26))) := NBox.new _ _
  have k0 := hid (Keep.alloc w (.cells #[.int .i64 0, .string ⟨#[]⟩, .int .i64 0, .int .i64 0, .int .i64 0, .string ⟨#[]⟩, .bool false, .string ⟨#[]⟩, .bool false, .slice none 0 0] 26))
  have HD : Hid (∀ e w', LeafDone wd.data.toList w e w' = (match rdLeaf wd.data.toList with
    | none => e = .returned (.tuple #[zeroV, .bool false]) ∧ Keep w w'
    | some t => ∃ cs : List Value, e = .returned (.tuple #[.agg cs.toArray, .bool true]) ∧ (∀ S, NeedIs S w' t cs) ∧ Keep w w')) := fun _ _ => rfl
  clear hE
  go_enter Tryz.func104, Tryz.ntmps104
  go_wp2_with fail
  generalize w.alloc (.cells #[.int .i64 0, .string ⟨#[]⟩, .int .i64 0, .int .i64 0, .int .i64 0, .string ⟨#[]⟩, .bool false, .string ⟨#[]⟩, .bool false, .slice none 0 0] 26) = W0 at r0 k0 ⊢
  refine (Tryz.strings_CutPrefix _ _ _).mono ?_
  rintro e w0 ⟨rfl, hw0⟩
  rw [hw0]
  clear hw0 w0
  have HQ : Hid (rdLeaf wd.data.toList = if prsE (Lib.trimPrefix wd.data.toList [33]) = 0 then some (.node (if Lib.hasPrefix wd.data.toList [33] then 2 else 1) (atOf (Lib.trimPrefix wd.data.toList [33])) ⟨#[]⟩ false []) else none) := rfl
  have hrw : (⟨#[33]⟩ : ByteArray).data.toList = [33] := rfl
  rw [hrw]
  clear hrw
  generalize hsx : Lib.trimPrefix wd.data.toList [33] = sx at HQ ⊢
  generalize hpx : Lib.hasPrefix wd.data.toList [33] = px at HQ ⊢
  clear hsx hpx
  go_wp2_with fail
  refine (parse_any ⟨sx.toArray⟩ W0 (HE.out.keep k0.out)).mono ?_
  rintro e w1 ⟨n, f, op, v, sl, on, rfl, hp, hq, k1⟩
  have K1 : Hid (Keep w w1) := k0.out.trans k1
  have R1 : Hid (NBox w.heap.size #[.int .i64 0, .string ⟨#[]⟩, .int .i64 0, .int .i64 0, .int .i64 0, .string ⟨#[]⟩, .bool false, .string ⟨#[]⟩, .bool false, .slice none 0 0] w1) := r0.out.keep k1 r0.out.facts.2.2
  have hsl : (⟨sx.toArray⟩ : ByteArray).data.toList = sx := by simp
  rw [hsl] at hp hq ⊢
  have KA := hid (K1.out.alloc' (.cells #[.string n, .int .i64 op, .int .i64 v, .int .i64 sl, .string f, .bool on] 23))
  have RA : Hid (NBox w.heap.size #[.int .i64 0, .string ⟨#[]⟩, .int .i64 0, .int .i64 0, .int .i64 0, .string ⟨#[]⟩, .bool false, .string ⟨#[]⟩, .bool false, .slice none 0 0] (w1.alloc (.cells #[.string n, .int .i64 op, .int .i64 v, .int .i64 sl, .string f, .bool on] 23))) := R1.out.keep (Keep.alloc _ _) R1.out.facts.2.2
  have hl1 := R1.out.facts.2.2
  have AB : Hid (AtomAt w1.heap.size n op v sl f on (w1.alloc (.cells #[.string n, .int .i64 op, .int .i64 v, .int .i64 sl, .string f, .bool on] 23))) := one_new _ _
  go_upto_region 3 with fail
  generalize w1.alloc (.cells #[.string n, .int .i64 op, .int .i64 v, .int .i64 sl, .string f, .bool on] 23) = W1 at KA RA AB ⊢
  obtain ⟨hcR, hzR, hlR⟩ := RA.out.facts
  obtain ⟨hcA, hzA, hlA⟩ := AB.out.facts
  have hne : w.heap.size ≠ w1.heap.size := by omega
  clear r0 k0 k1 hsl
  by_cases hz : prsE sx = 0
  · have HA : Hid (atOf sx = ⟨n, op, v, sl, f, on⟩) := by
      show _ = _
      obtain ⟨q1, q2, q3, q4, q5, q6⟩ := hp hz
      unfold atOf
      rw [← q1, ← q2, ← q3, ← q4, ← q5, ← q6, bytes_back, bytes_back]
    rw [hz] at HQ ⊢
    clear hp hq hz
    cases px
    · have HR : Hid (rdLeaf wd.data.toList = some (.node 1 ⟨n, op, v, sl, f, on⟩ ⟨#[]⟩ false [])) := by show _ = _; rw [HQ.out, if_pos rfl, HA.out]; rfl
      clear HQ HA
      go_wp2_with fail
      obtain ⟨b1, b2, b3, b4⟩ := RA.out.set rfl (.int .i64 1) (.string n) (.int .i64 op) (.int .i64 v) (.int .i64 sl) (.string f) (.bool on) (.string ⟨#[]⟩) (.bool false) (.slice none 0 0)
      have KW : Hid (Keep w ((((((((((W1.setCell ⟨w.heap.size, 0, none⟩ (.int .i64 1)).setCell ⟨w.heap.size, 1, none⟩ (.string n)).setCell ⟨w.heap.size, 2, none⟩ (.int .i64 op)).setCell ⟨w.heap.size, 3, none⟩ (.int .i64 v)).setCell ⟨w.heap.size, 4, none⟩ (.int .i64 sl)).setCell ⟨w.heap.size, 5, none⟩ (.string f)).setCell ⟨w.heap.size, 6, none⟩ (.bool on)).setCell ⟨w.heap.size, 7, none⟩ (.string ⟨#[]⟩)).setCell ⟨w.heap.size, 8, none⟩ (.bool false)).setCell ⟨w.heap.size, 9, none⟩ (.slice none 0 0))) := Below.trans KA.out b2
      have BW : Hid (NBox w.heap.size #[.int .i64 1, .string n, .int .i64 op, .int .i64 v, .int .i64 sl, .string f, .bool on, .string ⟨#[]⟩, .bool false, .slice none 0 0] ((((((((((W1.setCell ⟨w.heap.size, 0, none⟩ (.int .i64 1)).setCell ⟨w.heap.size, 1, none⟩ (.string n)).setCell ⟨w.heap.size, 2, none⟩ (.int .i64 op)).setCell ⟨w.heap.size, 3, none⟩ (.int .i64 v)).setCell ⟨w.heap.size, 4, none⟩ (.int .i64 sl)).setCell ⟨w.heap.size, 5, none⟩ (.string f)).setCell ⟨w.heap.size, 6, none⟩ (.bool on)).setCell ⟨w.heap.size, 7, none⟩ (.string ⟨#[]⟩)).setCell ⟨w.heap.size, 8, none⟩ (.bool false)).setCell ⟨w.heap.size, 9, none⟩ (.slice none 0 0))) := b1
      clear b1 b2 b3 b4 hcR hzR hcA hzA
      generalize ((((((((((W1.setCell ⟨w.heap.size, 0, none⟩ (.int .i64 1)).setCell ⟨w.heap.size, 1, none⟩ (.string n)).setCell ⟨w.heap.size, 2, none⟩ (.int .i64 op)).setCell ⟨w.heap.size, 3, none⟩ (.int .i64 v)).setCell ⟨w.heap.size, 4, none⟩ (.int .i64 sl)).setCell ⟨w.heap.size, 5, none⟩ (.string f)).setCell ⟨w.heap.size, 6, none⟩ (.bool on)).setCell ⟨w.heap.size, 7, none⟩ (.string ⟨#[]⟩)).setCell ⟨w.heap.size, 8, none⟩ (.bool false)).setCell ⟨w.heap.size, 9, none⟩ (.slice none 0 0)) = W at KW BW ⊢
      obtain ⟨hcW, _, _⟩ := BW.out.facts
      refine bodyPost_ret (v := .tuple #[.agg #[.int .i64 1, .string n, .int .i64 op, .int .i64 v, .int .i64 sl, .string f, .bool on, .string ⟨#[]⟩, .bool false, .slice none 0 0], .bool true]) ?_ rfl ?_
      · simp [results, Tryz.results104, go_sem, hcW]
      show LeafDone _ w _ W
      rw [HD.out, HR.out]
      exact ⟨[.int .i64 1, .string n, .int .i64 op, .int .i64 v, .int .i64 sl, .string f, .bool on, .string ⟨#[]⟩, .bool false, .slice none 0 0], rfl, fun S => by rw [NeedIs]; exact ⟨none, 0, rfl, Nat.le_refl _, by simp, by rw [KidsIs]; trivial⟩, KW.out⟩
    · have HR : Hid (rdLeaf wd.data.toList = some (.node 2 ⟨n, op, v, sl, f, on⟩ ⟨#[]⟩ false [])) := by show _ = _; rw [HQ.out, if_pos rfl, HA.out]; rfl
      clear HQ HA
      go_wp2_with fail
      obtain ⟨b1, b2, b3, b4⟩ := RA.out.set rfl (.int .i64 2) (.string n) (.int .i64 op) (.int .i64 v) (.int .i64 sl) (.string f) (.bool on) (.string ⟨#[]⟩) (.bool false) (.slice none 0 0)
      have KW : Hid (Keep w ((((((((((W1.setCell ⟨w.heap.size, 0, none⟩ (.int .i64 2)).setCell ⟨w.heap.size, 1, none⟩ (.string n)).setCell ⟨w.heap.size, 2, none⟩ (.int .i64 op)).setCell ⟨w.heap.size, 3, none⟩ (.int .i64 v)).setCell ⟨w.heap.size, 4, none⟩ (.int .i64 sl)).setCell ⟨w.heap.size, 5, none⟩ (.string f)).setCell ⟨w.heap.size, 6, none⟩ (.bool on)).setCell ⟨w.heap.size, 7, none⟩ (.string ⟨#[]⟩)).setCell ⟨w.heap.size, 8, none⟩ (.bool false)).setCell ⟨w.heap.size, 9, none⟩ (.slice none 0 0))) := Below.trans KA.out b2
      have BW : Hid (NBox w.heap.size #[.int .i64 2, .string n, .int .i64 op, .int .i64 v, .int .i64 sl, .string f, .bool on, .string ⟨#[]⟩, .bool false, .slice none 0 0] ((((((((((W1.setCell ⟨w.heap.size, 0, none⟩ (.int .i64 2)).setCell ⟨w.heap.size, 1, none⟩ (.string n)).setCell ⟨w.heap.size, 2, none⟩ (.int .i64 op)).setCell ⟨w.heap.size, 3, none⟩ (.int .i64 v)).setCell ⟨w.heap.size, 4, none⟩ (.int .i64 sl)).setCell ⟨w.heap.size, 5, none⟩ (.string f)).setCell ⟨w.heap.size, 6, none⟩ (.bool on)).setCell ⟨w.heap.size, 7, none⟩ (.string ⟨#[]⟩)).setCell ⟨w.heap.size, 8, none⟩ (.bool false)).setCell ⟨w.heap.size, 9, none⟩ (.slice none 0 0))) := b1
      clear b1 b2 b3 b4 hcR hzR hcA hzA
      generalize ((((((((((W1.setCell ⟨w.heap.size, 0, none⟩ (.int .i64 2)).setCell ⟨w.heap.size, 1, none⟩ (.string n)).setCell ⟨w.heap.size, 2, none⟩ (.int .i64 op)).setCell ⟨w.heap.size, 3, none⟩ (.int .i64 v)).setCell ⟨w.heap.size, 4, none⟩ (.int .i64 sl)).setCell ⟨w.heap.size, 5, none⟩ (.string f)).setCell ⟨w.heap.size, 6, none⟩ (.bool on)).setCell ⟨w.heap.size, 7, none⟩ (.string ⟨#[]⟩)).setCell ⟨w.heap.size, 8, none⟩ (.bool false)).setCell ⟨w.heap.size, 9, none⟩ (.slice none 0 0)) = W at KW BW ⊢
      obtain ⟨hcW, _, _⟩ := BW.out.facts
      refine bodyPost_ret (v := .tuple #[.agg #[.int .i64 2, .string n, .int .i64 op, .int .i64 v, .int .i64 sl, .string f, .bool on, .string ⟨#[]⟩, .bool false, .slice none 0 0], .bool true]) ?_ rfl ?_
      · simp [results, Tryz.results104, go_sem, hcW]
      show LeafDone _ w _ W
      rw [HD.out, HR.out]
      exact ⟨[.int .i64 2, .string n, .int .i64 op, .int .i64 v, .int .i64 sl, .string f, .bool on, .string ⟨#[]⟩, .bool false, .slice none 0 0], rfl, fun S => by rw [NeedIs]; exact ⟨none, 0, rfl, Nat.le_refl _, by simp, by rw [KidsIs]; trivial⟩, KW.out⟩
  · have hz1 : (prsE sx != 0) = true := by simpa using hz
    have HR : Hid (rdLeaf wd.data.toList = none) := by show _ = _; rw [HQ.out, if_neg hz]
    clear hp hq hz HQ
    go_wp2_with fail
    obtain ⟨b1, b2, b3, b4⟩ := RA.out.set rfl (.int .i64 0) (.string ⟨#[]⟩) (.int .i64 0) (.int .i64 0) (.int .i64 0) (.string ⟨#[]⟩) (.bool false) (.string ⟨#[]⟩) (.bool false) (.slice none 0 0)
    have KW : Hid (Keep w ((((((((((W1.setCell ⟨w.heap.size, 0, none⟩ (.int .i64 0)).setCell ⟨w.heap.size, 1, none⟩ (.string ⟨#[]⟩)).setCell ⟨w.heap.size, 2, none⟩ (.int .i64 0)).setCell ⟨w.heap.size, 3, none⟩ (.int .i64 0)).setCell ⟨w.heap.size, 4, none⟩ (.int .i64 0)).setCell ⟨w.heap.size, 5, none⟩ (.string ⟨#[]⟩)).setCell ⟨w.heap.size, 6, none⟩ (.bool false)).setCell ⟨w.heap.size, 7, none⟩ (.string ⟨#[]⟩)).setCell ⟨w.heap.size, 8, none⟩ (.bool false)).setCell ⟨w.heap.size, 9, none⟩ (.slice none 0 0))) := Below.trans KA.out b2
    have BW : Hid (NBox w.heap.size #[.int .i64 0, .string ⟨#[]⟩, .int .i64 0, .int .i64 0, .int .i64 0, .string ⟨#[]⟩, .bool false, .string ⟨#[]⟩, .bool false, .slice none 0 0] ((((((((((W1.setCell ⟨w.heap.size, 0, none⟩ (.int .i64 0)).setCell ⟨w.heap.size, 1, none⟩ (.string ⟨#[]⟩)).setCell ⟨w.heap.size, 2, none⟩ (.int .i64 0)).setCell ⟨w.heap.size, 3, none⟩ (.int .i64 0)).setCell ⟨w.heap.size, 4, none⟩ (.int .i64 0)).setCell ⟨w.heap.size, 5, none⟩ (.string ⟨#[]⟩)).setCell ⟨w.heap.size, 6, none⟩ (.bool false)).setCell ⟨w.heap.size, 7, none⟩ (.string ⟨#[]⟩)).setCell ⟨w.heap.size, 8, none⟩ (.bool false)).setCell ⟨w.heap.size, 9, none⟩ (.slice none 0 0))) := b1
    clear b1 b2 b3 b4 hcR hzR hcA hzA
    generalize ((((((((((W1.setCell ⟨w.heap.size, 0, none⟩ (.int .i64 0)).setCell ⟨w.heap.size, 1, none⟩ (.string ⟨#[]⟩)).setCell ⟨w.heap.size, 2, none⟩ (.int .i64 0)).setCell ⟨w.heap.size, 3, none⟩ (.int .i64 0)).setCell ⟨w.heap.size, 4, none⟩ (.int .i64 0)).setCell ⟨w.heap.size, 5, none⟩ (.string ⟨#[]⟩)).setCell ⟨w.heap.size, 6, none⟩ (.bool false)).setCell ⟨w.heap.size, 7, none⟩ (.string ⟨#[]⟩)).setCell ⟨w.heap.size, 8, none⟩ (.bool false)).setCell ⟨w.heap.size, 9, none⟩ (.slice none 0 0)) = W at KW BW ⊢
    obtain ⟨hcW, _, _⟩ := BW.out.facts
    refine bodyPost_ret (v := .tuple #[.agg #[.int .i64 0, .string ⟨#[]⟩, .int .i64 0, .int .i64 0, .int .i64 0, .string ⟨#[]⟩, .bool false, .string ⟨#[]⟩, .bool false, .slice none 0 0], .bool false]) ?_ rfl ?_
    · simp [results, Tryz.results104, go_sem, hcW]
    show LeafDone _ w _ W
    rw [HD.out, HR.out]
    exact ⟨rfl, KW.out⟩
end Go.Proofs.YtnagpmilagdjeaaGreatDoor
