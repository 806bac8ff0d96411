/- The reader of words: next hands on the words one by one; leaf reads an atom's word. -/
import Derived.Test.YtkckkjpkidcbnaaGreatDoorNeedPrint
import Derived.Deep.LoopGhost
namespace Go.Proofs.YtkckkjpkidcbnaaGreatDoor
open Go.RowKit

/-- The reader at block rb has these words left. -/
def RdAt (rb : Nat) (ws : List ByteArray) (w : World) : Prop :=
  ∃ (p : Option Addr) (cap : Nat), VarAt rb 92 (.slice p ws.length cap) w ∧ ws.length ≤ cap ∧ cap ≤ 1000000 ∧ (ws ≠ [] → ∃ b o, p = some ⟨b, o, none⟩ ∧ b < rb ∧ ∀ (j : Nat) x, ws[j]? = some x → w.cell? ⟨b, o + j, none⟩ = some (.string x))
theorem RdAt.lt {rb : Nat} {ws : List ByteArray} {w : World} (h : RdAt rb ws w) : rb < w.heap.size := by
  obtain ⟨p, cap, h1, -⟩ := h; exact h1.facts.2.2
theorem RdAt.keep {rb : Nat} {ws : List ByteArray} {w w' : World} (h : RdAt rb ws w) (k : Keep w w') : RdAt rb ws w' := by
  obtain ⟨p, cap, h1, h2, h3, h4⟩ := h
  refine ⟨p, cap, h1.keep k h1.facts.2.2, h2, h3, fun hne => ?_⟩
  obtain ⟨b, o, e1, e2, e4⟩ := h4 hne
  exact ⟨b, o, e1, e2, fun j x hx => (k.cell (p := ⟨b, o + j, none⟩) (Nat.lt_trans e2 h1.facts.2.2)).trans (e4 j x hx)⟩
theorem rd_next {rb b o cap : Nat} {x : ByteArray} {ws : List ByteArray} {w : World} {v : Value} (h1 : VarAt rb 92 v w) (h2 : ws.length ≤ cap) (h3 : cap ≤ 1000000) (hb : b < rb)
    (hcells : ∀ (j : Nat) y, (x :: ws)[j]? = some y → w.cell? ⟨b, o + j, none⟩ = some (.string y)) (q : Addr) (hq : ws ≠ [] → q = ⟨b, o + 1, none⟩) :
    RdAt rb ws (w.setCell ⟨rb, 0, none⟩ (.slice (some q) ws.length cap)) := by
  refine ⟨some q, cap, h1.set _, h2, h3, fun hne' => ?_⟩
  refine ⟨b, o + 1, by rw [hq hne'], hb, fun j y hy => ?_⟩
  rw [(one_set rb w (.slice (some q) ws.length cap)).cell ⟨b, o + 1 + j, none⟩ (Nat.lt_trans hb h1.facts.2.2) (fun e => by have : b = rb := e; omega)]
  have := hcells (j + 1) y (by simpa using hy)
  rw [show o + (j + 1) = o + 1 + j by omega] at this
  exact this

set_option maxHeartbeats 1000000 in
theorem next_any (rb : Nat) (ws : List ByteArray) (w : World) (h : RdAt rb ws w) :
    Calls Tryz.prog 57 #[.pointer (some ⟨rb, 0, none⟩)] w fun e w' => e = .returned (.string (ws.headD ⟨#[]⟩)) ∧ RdAt rb ws.tail w' ∧ Apart (One rb) w w' := by
  obtain ⟨p, cap, h1, h2, h3, h4⟩ := h
  obtain ⟨hc, hz, hlt⟩ := h1.facts
  have H1 := hid h1
  clear h1
  cases ws with
  | nil =>
    have HR : Hid (RdAt rb [] w) := ⟨p, cap, H1.out, h2, h3, h4⟩
    clear h4 h2
    go_enter Tryz.func57, Tryz.ntmps57
    go_wp2_with fail
    go_ret
    exact ⟨rfl, HR.out, Apart.refl _ _⟩
  | cons x ws =>
    obtain ⟨b, o, rfl, hb, hcells⟩ := h4 (by simp)
    have hne : b ≠ rb := Nat.ne_of_lt hb
    have c0 : w.cell? ⟨b, o, none⟩ = some (.string x) := hcells 0 x rfl
    have HC : Hid (∀ (j : Nat) y, (x :: ws)[j]? = some y → w.cell? ⟨b, o + j, none⟩ = some (.string y)) := hcells
    clear h4 hcells
    rw [List.length_cons] at h2 hc H1
    by_cases hcap : cap = 1
    · subst hcap
      obtain rfl : ws = [] := List.length_eq_zero_iff.1 (by omega)
      go_enter Tryz.func57, Tryz.ntmps57
      go_wp2_with fail
      go_ret
      exact ⟨rfl, rd_next (ws := []) H1.out (Nat.le_refl _) (by decide) hb HC.out _ (fun h => absurd rfl h), one_set rb w _⟩
    · have hc1 : 1 < cap := by omega
      go_enter Tryz.func57, Tryz.ntmps57
      go_wp2_with fail
      go_ret
      exact ⟨rfl, rd_next H1.out (by omega) (by omega) hb HC.out _ (fun _ => rfl), one_set rb w _⟩

/-- A need's ten cells, at block b. -/
def NBox (b : Nat) (cs : Array Value) (w : World) : Prop := w.heap[b]? = some (.cells cs 26 (0, 0))
theorem NBox.facts {b : Nat} {cs : Array Value} {w : World} (h : NBox b cs w) : (∀ o, w.cell? ⟨b, o, none⟩ = cs[o]?) ∧ (∀ o, w.frozen? ⟨b, o, none⟩ = false) ∧ b < w.heap.size := by
  unfold NBox at h
  refine ⟨fun o => by simp [World.cell?, h], fun o => by simp [World.frozen?, h], (Array.getElem?_eq_some_iff.1 h).1⟩
theorem NBox.new (w : World) (cs : Array Value) : NBox w.heap.size cs (w.alloc (.cells cs 26)) := by
  show (w.heap.push _)[w.heap.size]? = _
  rw [Array.getElem?_push, if_pos rfl]
theorem NBox.keep {b B : Nat} {cs : Array Value} {w w' : World} (h : NBox b cs w) (k : Below B w w') (hB : b < B) : NBox b cs w' := by
  unfold NBox at *; rw [k.block b hB]; exact h
theorem array10 {α : Type} {cs : Array α} (h : cs.size = 10) : ∃ c0 c1 c2 c3 c4 c5 c6 c7 c8 c9, cs = #[c0, c1, c2, c3, c4, c5, c6, c7, c8, c9] := by
  obtain ⟨l⟩ := cs
  match l, h with
  | [c0, c1, c2, c3, c4, c5, c6, c7, c8, c9], _ => exact ⟨c0, c1, c2, c3, c4, c5, c6, c7, c8, c9, rfl⟩
set_option maxHeartbeats 1000000 in
/-- A store of a whole need. -/
theorem NBox.set {b : Nat} {cs : Array Value} {w : World} (h : NBox b cs w) (hs : cs.size = 10) (v0 v1 v2 v3 v4 v5 v6 v7 v8 v9 : Value) :
    NBox b #[v0, v1, v2, v3, v4, v5, v6, v7, v8, v9] ((((((((((w.setCell ⟨b, 0, none⟩ v0).setCell ⟨b, 1, none⟩ v1).setCell ⟨b, 2, none⟩ v2).setCell ⟨b, 3, none⟩ v3).setCell ⟨b, 4, none⟩ v4).setCell ⟨b, 5, none⟩ v5).setCell ⟨b, 6, none⟩ v6).setCell ⟨b, 7, none⟩ v7).setCell ⟨b, 8, none⟩ v8).setCell ⟨b, 9, none⟩ v9) ∧ Below b w ((((((((((w.setCell ⟨b, 0, none⟩ v0).setCell ⟨b, 1, none⟩ v1).setCell ⟨b, 2, none⟩ v2).setCell ⟨b, 3, none⟩ v3).setCell ⟨b, 4, none⟩ v4).setCell ⟨b, 5, none⟩ v5).setCell ⟨b, 6, none⟩ v6).setCell ⟨b, 7, none⟩ v7).setCell ⟨b, 8, none⟩ v8).setCell ⟨b, 9, none⟩ v9) ∧ ((((((((((w.setCell ⟨b, 0, none⟩ v0).setCell ⟨b, 1, none⟩ v1).setCell ⟨b, 2, none⟩ v2).setCell ⟨b, 3, none⟩ v3).setCell ⟨b, 4, none⟩ v4).setCell ⟨b, 5, none⟩ v5).setCell ⟨b, 6, none⟩ v6).setCell ⟨b, 7, none⟩ v7).setCell ⟨b, 8, none⟩ v8).setCell ⟨b, 9, none⟩ v9).heap.size = w.heap.size ∧ ∀ k, k ≠ b → ((((((((((w.setCell ⟨b, 0, none⟩ v0).setCell ⟨b, 1, none⟩ v1).setCell ⟨b, 2, none⟩ v2).setCell ⟨b, 3, none⟩ v3).setCell ⟨b, 4, none⟩ v4).setCell ⟨b, 5, none⟩ v5).setCell ⟨b, 6, none⟩ v6).setCell ⟨b, 7, none⟩ v7).setCell ⟨b, 8, none⟩ v8).setCell ⟨b, 9, none⟩ v9).heap[k]? = w.heap[k]? := by
  obtain ⟨c0, c1, c2, c3, c4, c5, c6, c7, c8, c9, rfl⟩ := array10 hs
  refine ⟨?_, ?_, ?_, ?_⟩
  · have h10 := heap_set (heap_set (heap_set (heap_set (heap_set (heap_set (heap_set (heap_set (heap_set (heap_set h 0 v0) 1 v1) 2 v2) 3 v3) 4 v4) 5 v5) 6 v6) 7 v7) 8 v8) 9 v9
    simp only [List.setIfInBounds_toArray, List.set_cons_zero, List.set_cons_succ] at h10
    exact h10
  · exact ((((((((((Below.refl b w).setCell (p := ⟨b, 0, none⟩) (Nat.le_refl _) v0).setCell (p := ⟨b, 1, none⟩) (Nat.le_refl _) v1).setCell (p := ⟨b, 2, none⟩) (Nat.le_refl _) v2).setCell (p := ⟨b, 3, none⟩) (Nat.le_refl _) v3).setCell (p := ⟨b, 4, none⟩) (Nat.le_refl _) v4).setCell (p := ⟨b, 5, none⟩) (Nat.le_refl _) v5).setCell (p := ⟨b, 6, none⟩) (Nat.le_refl _) v6).setCell (p := ⟨b, 7, none⟩) (Nat.le_refl _) v7).setCell (p := ⟨b, 8, none⟩) (Nat.le_refl _) v8).setCell (p := ⟨b, 9, none⟩) (Nat.le_refl _) v9
  · simp [World.setCell]
  · intro k hk
    simp [World.setCell, Array.getElem?_modify, Ne.symm hk]

/-- A need that is nothing. -/
def zeroV : Value := .agg #[.int .i64 0, .string ⟨#[]⟩, .int .i64 0, .int .i64 0, .int .i64 0, .string ⟨#[]⟩, .bool false, .string ⟨#[]⟩, .bool false, .slice none 0 0]
/-- What leaf answers. -/
def LeafDone (wd : Word) (w : World) (e : Ending) (w' : World) : Prop :=
  match rdLeaf wd with
  | none => e = .returned (.tuple #[zeroV, .bool false]) ∧ Keep w w'
  | some t => ∃ cs : List Value, e = .returned (.tuple #[.agg cs.toArray, .bool true]) ∧ (∀ S, NeedIs S w' t cs) ∧ Keep w w'

set_option maxHeartbeats 4000000 in
theorem leaf_any (wd : ByteArray) (w : World) (hE : Env w) :
    Calls Tryz.prog 124 #[.string wd] w fun e w' => LeafDone wd.data.toList w e w' := by
  have HE := hid hE
  have r0 : Hid (NBox w.heap.size #[.int .i64 0, .string ⟨#[]⟩, .int .i64 0, .int .i64 0, .int .i64 0, .string ⟨#[]⟩, .bool false, .string ⟨#[]⟩, .bool false, .slice none 0 0] (w.alloc (.cells #[.int .i64 0, .string ⟨#[]⟩, .int .i64 0, .int .i64 0, .int .i64 0, .string ⟨#[]⟩, .bool false, .string ⟨#[]⟩, .bool false, .slice none 0 0] 26))) := NBox.new _ _
  have k0 := hid (Keep.alloc w (.cells #[.int .i64 0, .string ⟨#[]⟩, .int .i64 0, .int .i64 0, .int .i64 0, .string ⟨#[]⟩, .bool false, .string ⟨#[]⟩, .bool false, .slice none 0 0] 26))
  have HD : Hid (∀ e w', LeafDone wd.data.toList w e w' = (match rdLeaf wd.data.toList with
    | none => e = .returned (.tuple #[zeroV, .bool false]) ∧ Keep w w'
    | some t => ∃ cs : List Value, e = .returned (.tuple #[.agg cs.toArray, .bool true]) ∧ (∀ S, NeedIs S w' t cs) ∧ Keep w w')) := fun _ _ => rfl
  clear hE
  go_enter Tryz.func124, Tryz.ntmps124
  go_wp2_with fail
  generalize w.alloc (.cells #[.int .i64 0, .string ⟨#[]⟩, .int .i64 0, .int .i64 0, .int .i64 0, .string ⟨#[]⟩, .bool false, .string ⟨#[]⟩, .bool false, .slice none 0 0] 26) = W0 at r0 k0 ⊢
  refine (Tryz.strings_CutPrefix _ _ _).mono ?_
  rintro e w0 ⟨rfl, hw0⟩
  rw [hw0]
  clear hw0 w0
  have HQ : Hid (rdLeaf wd.data.toList = if prsE (Lib.trimPrefix wd.data.toList [33]) = 0 then some (.node (if Lib.hasPrefix wd.data.toList [33] then 2 else 1) (atOf (Lib.trimPrefix wd.data.toList [33])) ⟨#[]⟩ false []) else none) := rfl
  have hrw : (⟨#[33]⟩ : ByteArray).data.toList = [33] := rfl
  rw [hrw]
  clear hrw
  generalize hsx : Lib.trimPrefix wd.data.toList [33] = sx at HQ ⊢
  generalize hpx : Lib.hasPrefix wd.data.toList [33] = px at HQ ⊢
  clear hsx hpx
  go_wp2_with fail
  refine (parse_any ⟨sx.toArray⟩ W0 (HE.out.keep k0.out)).mono ?_
  rintro e w1 ⟨n, f, op, v, sl, on, rfl, hp, hq, k1⟩
  have K1 : Hid (Keep w w1) := k0.out.trans k1
  have R1 : Hid (NBox w.heap.size #[.int .i64 0, .string ⟨#[]⟩, .int .i64 0, .int .i64 0, .int .i64 0, .string ⟨#[]⟩, .bool false, .string ⟨#[]⟩, .bool false, .slice none 0 0] w1) := r0.out.keep k1 r0.out.facts.2.2
  have hsl : (⟨sx.toArray⟩ : ByteArray).data.toList = sx := by simp
  rw [hsl] at hp hq ⊢
  have KA := hid (K1.out.alloc' (.cells #[.string n, .int .i64 op, .int .i64 v, .int .i64 sl, .string f, .bool on] 23))
  have RA : Hid (NBox w.heap.size #[.int .i64 0, .string ⟨#[]⟩, .int .i64 0, .int .i64 0, .int .i64 0, .string ⟨#[]⟩, .bool false, .string ⟨#[]⟩, .bool false, .slice none 0 0] (w1.alloc (.cells #[.string n, .int .i64 op, .int .i64 v, .int .i64 sl, .string f, .bool on] 23))) := R1.out.keep (Keep.alloc _ _) R1.out.facts.2.2
  have hl1 := R1.out.facts.2.2
  have AB : Hid (AtomAt w1.heap.size n op v sl f on (w1.alloc (.cells #[.string n, .int .i64 op, .int .i64 v, .int .i64 sl, .string f, .bool on] 23))) := one_new _ _
  go_upto_region 3 with fail
  generalize w1.alloc (.cells #[.string n, .int .i64 op, .int .i64 v, .int .i64 sl, .string f, .bool on] 23) = W1 at KA RA AB ⊢
  obtain ⟨hcR, hzR, hlR⟩ := RA.out.facts
  obtain ⟨hcA, hzA, hlA⟩ := AB.out.facts
  have hne : w.heap.size ≠ w1.heap.size := by omega
  clear r0 k0 k1 hsl
  by_cases hz : prsE sx = 0
  · have HA : Hid (atOf sx = ⟨n, op, v, sl, f, on⟩) := by
      show _ = _
      obtain ⟨q1, q2, q3, q4, q5, q6⟩ := hp hz
      unfold atOf
      rw [← q1, ← q2, ← q3, ← q4, ← q5, ← q6, bytes_back, bytes_back]
    rw [hz] at HQ ⊢
    clear hp hq hz
    cases px
    · have HR : Hid (rdLeaf wd.data.toList = some (.node 1 ⟨n, op, v, sl, f, on⟩ ⟨#[]⟩ false [])) := by show _ = _; rw [HQ.out, if_pos rfl, HA.out]; rfl
      clear HQ HA
      go_wp2_with fail
      obtain ⟨b1, b2, b3, b4⟩ := RA.out.set rfl (.int .i64 1) (.string n) (.int .i64 op) (.int .i64 v) (.int .i64 sl) (.string f) (.bool on) (.string ⟨#[]⟩) (.bool false) (.slice none 0 0)
      have KW : Hid (Keep w ((((((((((W1.setCell ⟨w.heap.size, 0, none⟩ (.int .i64 1)).setCell ⟨w.heap.size, 1, none⟩ (.string n)).setCell ⟨w.heap.size, 2, none⟩ (.int .i64 op)).setCell ⟨w.heap.size, 3, none⟩ (.int .i64 v)).setCell ⟨w.heap.size, 4, none⟩ (.int .i64 sl)).setCell ⟨w.heap.size, 5, none⟩ (.string f)).setCell ⟨w.heap.size, 6, none⟩ (.bool on)).setCell ⟨w.heap.size, 7, none⟩ (.string ⟨#[]⟩)).setCell ⟨w.heap.size, 8, none⟩ (.bool false)).setCell ⟨w.heap.size, 9, none⟩ (.slice none 0 0))) := Below.trans KA.out b2
      have BW : Hid (NBox w.heap.size #[.int .i64 1, .string n, .int .i64 op, .int .i64 v, .int .i64 sl, .string f, .bool on, .string ⟨#[]⟩, .bool false, .slice none 0 0] ((((((((((W1.setCell ⟨w.heap.size, 0, none⟩ (.int .i64 1)).setCell ⟨w.heap.size, 1, none⟩ (.string n)).setCell ⟨w.heap.size, 2, none⟩ (.int .i64 op)).setCell ⟨w.heap.size, 3, none⟩ (.int .i64 v)).setCell ⟨w.heap.size, 4, none⟩ (.int .i64 sl)).setCell ⟨w.heap.size, 5, none⟩ (.string f)).setCell ⟨w.heap.size, 6, none⟩ (.bool on)).setCell ⟨w.heap.size, 7, none⟩ (.string ⟨#[]⟩)).setCell ⟨w.heap.size, 8, none⟩ (.bool false)).setCell ⟨w.heap.size, 9, none⟩ (.slice none 0 0))) := b1
      clear b1 b2 b3 b4 hcR hzR hcA hzA
      generalize ((((((((((W1.setCell ⟨w.heap.size, 0, none⟩ (.int .i64 1)).setCell ⟨w.heap.size, 1, none⟩ (.string n)).setCell ⟨w.heap.size, 2, none⟩ (.int .i64 op)).setCell ⟨w.heap.size, 3, none⟩ (.int .i64 v)).setCell ⟨w.heap.size, 4, none⟩ (.int .i64 sl)).setCell ⟨w.heap.size, 5, none⟩ (.string f)).setCell ⟨w.heap.size, 6, none⟩ (.bool on)).setCell ⟨w.heap.size, 7, none⟩ (.string ⟨#[]⟩)).setCell ⟨w.heap.size, 8, none⟩ (.bool false)).setCell ⟨w.heap.size, 9, none⟩ (.slice none 0 0)) = W at KW BW ⊢
      obtain ⟨hcW, _, _⟩ := BW.out.facts
      refine bodyPost_ret (v := .tuple #[.agg #[.int .i64 1, .string n, .int .i64 op, .int .i64 v, .int .i64 sl, .string f, .bool on, .string ⟨#[]⟩, .bool false, .slice none 0 0], .bool true]) ?_ rfl ?_
      · simp [results, Tryz.results124, go_sem, hcW]
      show LeafDone _ w _ W
      rw [HD.out, HR.out]
      exact ⟨[.int .i64 1, .string n, .int .i64 op, .int .i64 v, .int .i64 sl, .string f, .bool on, .string ⟨#[]⟩, .bool false, .slice none 0 0], rfl, fun S => by rw [NeedIs]; exact ⟨none, 0, rfl, Nat.le_refl _, by simp, by rw [KidsIs]; trivial⟩, KW.out⟩
    · have HR : Hid (rdLeaf wd.data.toList = some (.node 2 ⟨n, op, v, sl, f, on⟩ ⟨#[]⟩ false [])) := by show _ = _; rw [HQ.out, if_pos rfl, HA.out]; rfl
      clear HQ HA
      go_wp2_with fail
      obtain ⟨b1, b2, b3, b4⟩ := RA.out.set rfl (.int .i64 2) (.string n) (.int .i64 op) (.int .i64 v) (.int .i64 sl) (.string f) (.bool on) (.string ⟨#[]⟩) (.bool false) (.slice none 0 0)
      have KW : Hid (Keep w ((((((((((W1.setCell ⟨w.heap.size, 0, none⟩ (.int .i64 2)).setCell ⟨w.heap.size, 1, none⟩ (.string n)).setCell ⟨w.heap.size, 2, none⟩ (.int .i64 op)).setCell ⟨w.heap.size, 3, none⟩ (.int .i64 v)).setCell ⟨w.heap.size, 4, none⟩ (.int .i64 sl)).setCell ⟨w.heap.size, 5, none⟩ (.string f)).setCell ⟨w.heap.size, 6, none⟩ (.bool on)).setCell ⟨w.heap.size, 7, none⟩ (.string ⟨#[]⟩)).setCell ⟨w.heap.size, 8, none⟩ (.bool false)).setCell ⟨w.heap.size, 9, none⟩ (.slice none 0 0))) := Below.trans KA.out b2
      have BW : Hid (NBox w.heap.size #[.int .i64 2, .string n, .int .i64 op, .int .i64 v, .int .i64 sl, .string f, .bool on, .string ⟨#[]⟩, .bool false, .slice none 0 0] ((((((((((W1.setCell ⟨w.heap.size, 0, none⟩ (.int .i64 2)).setCell ⟨w.heap.size, 1, none⟩ (.string n)).setCell ⟨w.heap.size, 2, none⟩ (.int .i64 op)).setCell ⟨w.heap.size, 3, none⟩ (.int .i64 v)).setCell ⟨w.heap.size, 4, none⟩ (.int .i64 sl)).setCell ⟨w.heap.size, 5, none⟩ (.string f)).setCell ⟨w.heap.size, 6, none⟩ (.bool on)).setCell ⟨w.heap.size, 7, none⟩ (.string ⟨#[]⟩)).setCell ⟨w.heap.size, 8, none⟩ (.bool false)).setCell ⟨w.heap.size, 9, none⟩ (.slice none 0 0))) := b1
      clear b1 b2 b3 b4 hcR hzR hcA hzA
      generalize ((((((((((W1.setCell ⟨w.heap.size, 0, none⟩ (.int .i64 2)).setCell ⟨w.heap.size, 1, none⟩ (.string n)).setCell ⟨w.heap.size, 2, none⟩ (.int .i64 op)).setCell ⟨w.heap.size, 3, none⟩ (.int .i64 v)).setCell ⟨w.heap.size, 4, none⟩ (.int .i64 sl)).setCell ⟨w.heap.size, 5, none⟩ (.string f)).setCell ⟨w.heap.size, 6, none⟩ (.bool on)).setCell ⟨w.heap.size, 7, none⟩ (.string ⟨#[]⟩)).setCell ⟨w.heap.size, 8, none⟩ (.bool false)).setCell ⟨w.heap.size, 9, none⟩ (.slice none 0 0)) = W at KW BW ⊢
      obtain ⟨hcW, _, _⟩ := BW.out.facts
      refine bodyPost_ret (v := .tuple #[.agg #[.int .i64 2, .string n, .int .i64 op, .int .i64 v, .int .i64 sl, .string f, .bool on, .string ⟨#[]⟩, .bool false, .slice none 0 0], .bool true]) ?_ rfl ?_
      · simp [results, Tryz.results124, go_sem, hcW]
      show LeafDone _ w _ W
      rw [HD.out, HR.out]
      exact ⟨[.int .i64 2, .string n, .int .i64 op, .int .i64 v, .int .i64 sl, .string f, .bool on, .string ⟨#[]⟩, .bool false, .slice none 0 0], rfl, fun S => by rw [NeedIs]; exact ⟨none, 0, rfl, Nat.le_refl _, by simp, by rw [KidsIs]; trivial⟩, KW.out⟩
  · have hz1 : (prsE sx != 0) = true := by simpa using hz
    have HR : Hid (rdLeaf wd.data.toList = none) := by show _ = _; rw [HQ.out, if_neg hz]
    clear hp hq hz HQ
    go_wp2_with fail
    obtain ⟨b1, b2, b3, b4⟩ := RA.out.set rfl (.int .i64 0) (.string ⟨#[]⟩) (.int .i64 0) (.int .i64 0) (.int .i64 0) (.string ⟨#[]⟩) (.bool false) (.string ⟨#[]⟩) (.bool false) (.slice none 0 0)
    have KW : Hid (Keep w ((((((((((W1.setCell ⟨w.heap.size, 0, none⟩ (.int .i64 0)).setCell ⟨w.heap.size, 1, none⟩ (.string ⟨#[]⟩)).setCell ⟨w.heap.size, 2, none⟩ (.int .i64 0)).setCell ⟨w.heap.size, 3, none⟩ (.int .i64 0)).setCell ⟨w.heap.size, 4, none⟩ (.int .i64 0)).setCell ⟨w.heap.size, 5, none⟩ (.string ⟨#[]⟩)).setCell ⟨w.heap.size, 6, none⟩ (.bool false)).setCell ⟨w.heap.size, 7, none⟩ (.string ⟨#[]⟩)).setCell ⟨w.heap.size, 8, none⟩ (.bool false)).setCell ⟨w.heap.size, 9, none⟩ (.slice none 0 0))) := Below.trans KA.out b2
    have BW : Hid (NBox w.heap.size #[.int .i64 0, .string ⟨#[]⟩, .int .i64 0, .int .i64 0, .int .i64 0, .string ⟨#[]⟩, .bool false, .string ⟨#[]⟩, .bool false, .slice none 0 0] ((((((((((W1.setCell ⟨w.heap.size, 0, none⟩ (.int .i64 0)).setCell ⟨w.heap.size, 1, none⟩ (.string ⟨#[]⟩)).setCell ⟨w.heap.size, 2, none⟩ (.int .i64 0)).setCell ⟨w.heap.size, 3, none⟩ (.int .i64 0)).setCell ⟨w.heap.size, 4, none⟩ (.int .i64 0)).setCell ⟨w.heap.size, 5, none⟩ (.string ⟨#[]⟩)).setCell ⟨w.heap.size, 6, none⟩ (.bool false)).setCell ⟨w.heap.size, 7, none⟩ (.string ⟨#[]⟩)).setCell ⟨w.heap.size, 8, none⟩ (.bool false)).setCell ⟨w.heap.size, 9, none⟩ (.slice none 0 0))) := b1
    clear b1 b2 b3 b4 hcR hzR hcA hzA
    generalize ((((((((((W1.setCell ⟨w.heap.size, 0, none⟩ (.int .i64 0)).setCell ⟨w.heap.size, 1, none⟩ (.string ⟨#[]⟩)).setCell ⟨w.heap.size, 2, none⟩ (.int .i64 0)).setCell ⟨w.heap.size, 3, none⟩ (.int .i64 0)).setCell ⟨w.heap.size, 4, none⟩ (.int .i64 0)).setCell ⟨w.heap.size, 5, none⟩ (.string ⟨#[]⟩)).setCell ⟨w.heap.size, 6, none⟩ (.bool false)).setCell ⟨w.heap.size, 7, none⟩ (.string ⟨#[]⟩)).setCell ⟨w.heap.size, 8, none⟩ (.bool false)).setCell ⟨w.heap.size, 9, none⟩ (.slice none 0 0)) = W at KW BW ⊢
    obtain ⟨hcW, _, _⟩ := BW.out.facts
    refine bodyPost_ret (v := .tuple #[.agg #[.int .i64 0, .string ⟨#[]⟩, .int .i64 0, .int .i64 0, .int .i64 0, .string ⟨#[]⟩, .bool false, .string ⟨#[]⟩, .bool false, .slice none 0 0], .bool false]) ?_ rfl ?_
    · simp [results, Tryz.results124, go_sem, hcW]
    show LeafDone _ w _ W
    rw [HD.out, HR.out]
    exact ⟨rfl, KW.out⟩
end Go.Proofs.YtkckkjpkidcbnaaGreatDoor
/- The reader's need, group and kids read what the plain functions rdNeed, openBy and kidsAll read. -/
namespace Go.Proofs.YtkckkjpkidcbnaaGreatDoor
open Go.RowKit

/-- The reader has these words left; none is long. -/
def RdS (rb : Nat) (ws : List ByteArray) (w : World) : Prop := RdAt rb ws w ∧ ∀ x ∈ ws, x.size ≤ 20000
theorem RdS.keep {rb : Nat} {ws : List ByteArray} {w w' : World} (h : RdS rb ws w) (k : Keep w w') : RdS rb ws w' := ⟨h.1.keep k, h.2⟩
theorem RdS.len {rb : Nat} {ws : List ByteArray} {w : World} (h : RdS rb ws w) : ws.length ≤ 1000000 := by
  obtain ⟨⟨p, cap, -, h2, h3, -⟩, -⟩ := h; omega
theorem RdS.other {rb : Nat} {ws : List ByteArray} {w w' : World} (h : RdS rb ws w) (hb : ∀ b, b ≤ rb → w'.heap[b]? = w.heap[b]?) : RdS rb ws w' := by
  obtain ⟨⟨p, cap, h1, h2, h3, h4⟩, h5⟩ := h
  refine ⟨⟨p, cap, ?_, h2, h3, fun hne => ?_⟩, h5⟩
  · unfold VarAt at *; rw [hb _ (Nat.le_refl _)]; exact h1
  · obtain ⟨b, o, e1, e2, e4⟩ := h4 hne
    exact ⟨b, o, e1, e2, fun j x hx => (World.cell?_of_block (w := w) (a := ⟨b, o + j, none⟩) (hb b (Nat.le_of_lt e2))).trans (e4 j x hx)⟩
theorem rdS_next (rb : Nat) (ws : List ByteArray) (w : World) (h : RdS rb ws w) :
    Calls Tryz.prog 57 #[.pointer (some ⟨rb, 0, none⟩)] w fun e w' => e = .returned (.string (ws.headD ⟨#[]⟩)) ∧ RdS rb ws.tail w' ∧ (ws.headD ⟨#[]⟩).size ≤ 20000 ∧ Apart (One rb) w w' := by
  refine (next_any rb ws w h.1).mono ?_
  rintro e w' ⟨he, hr, ha⟩
  refine ⟨he, ⟨hr, fun x hx => h.2 x (List.mem_of_mem_tail hx)⟩, ?_, ha⟩
  cases ws with
  | nil => decide
  | cons x ws => exact h.2 x (by simp)
theorem Env.apart {rb : Nat} {w w' : World} (h : Env w) (ho : Old rb) (hr : rb < w.heap.size) (ha : Apart (One rb) w w') : Env w' :=
  h.below (ha.below (Nat.le_of_lt hr) (fun b hb e => by have : b = rb := e; omega)) ho
theorem NBox.apart {rb b : Nat} {cs : Array Value} {w w' : World} (h : NBox b cs w) (ha : Apart (One rb) w w') (hne : b ≠ rb) : NBox b cs w' := by
  have hl := h.facts.2.2
  unfold NBox at *; rw [ha.block b hl hne]; exact h

/-- What need, group and kids answer. -/
def NeedDone (rb : Nat) (res : Option (NT × List Word)) (w : World) (e : Ending) (w' : World) : Prop :=
  match res with
  | none => e = .returned (.tuple #[zeroV, .bool false]) ∧ Apart (One rb) w w'
  | some r => ∃ (cs : List Value) (ws : List ByteArray), e = .returned (.tuple #[.agg cs.toArray, .bool true]) ∧ NeedIs (fun b => w.heap.size ≤ b ∧ b < w'.heap.size) w' r.1 cs ∧ RdS rb ws w' ∧ ws.map (·.data.toList) = r.2 ∧ Apart (One rb) w w'
def NeedReads (g : Nat) : Prop := ∀ (rb : Nat) (wd : ByteArray) (ws : List ByteArray) (d : Int) (w : World), d + g = 5 → 1 ≤ d → Env w → Old rb → RdS rb ws w → wd.size ≤ 20000 →
  Calls Tryz.prog 56 #[.pointer (some ⟨rb, 0, none⟩), .string wd, .int .i64 d] w fun e w' => NeedDone rb (rdNeed g wd.data.toList (ws.map (·.data.toList))) w e w'

theorem rd_empty : ∀ (g : Nat) (ws : List Word), rdNeed g [] ws = none
  | 0, _ => rfl
  | g + 1, ws => by
    rw [rdNeed, if_neg (by decide), if_neg (by decide), if_neg (by decide)]
    have : rdLeaf [] = none := by decide
    rw [this]; rfl
theorem kids_head (g m : Nat) (acc : List NT) (ws : List ByteArray) : kidsBy (rdNeed g) m acc (ws.map (·.data.toList)) = kidsBy (rdNeed g) m acc ((ws.headD ⟨#[]⟩).data.toList :: ws.tail.map (·.data.toList)) := by
  cases ws with
  | cons x ws => rfl
  | nil =>
    cases m with
    | zero => rfl
    | succ m =>
      show none = kidsBy (rdNeed g) (m + 1) acc ([] :: [])
      rw [kidsBy, if_neg (by decide), rd_empty]
theorem rd_len {g : Nat} {wd : Word} {ws : List Word} {t : NT} {rest : List Word} (h : rdNeed g wd ws = some (t, rest)) : rest.length ≤ ws.length := by
  obtain ⟨h1, -⟩ := rd_read g wd ws t rest h
  obtain ⟨x, r, e⟩ := words_pos t
  have := congrArg List.length h1
  rw [e] at this
  simp at this
  omega

/-- The kids so far, in a row of the call's own. -/
def KidRow (B : Nat) (v : Value) (acc : List NT) (w : World) : Prop :=
  ∃ csl : List (List Value), csl.length = acc.length ∧ (∀ cs ∈ csl, cs.length = 10) ∧ w.ownsRow B 26 10 v acc.length csl.flatten ∧ ∀ (i : Nat) t cs, acc[i]? = some t → csl[i]? = some cs → NeedIs (fun b => B ≤ b ∧ b < w.heap.size ∧ v.ownBlock ≠ some b) w t cs
theorem KidRow.nil (B : Nat) (w : World) : KidRow B (.slice none 0 0) [] w := ⟨[], rfl, by simp, World.ownsRow_nil _ _ _ _, by simp⟩
theorem KidRow.other {B : Nat} {v : Value} {acc : List NT} {w w' : World} (h : KidRow B v acc w) (hs : w.heap.size ≤ w'.heap.size) (hb : ∀ b, B ≤ b → b < w.heap.size → w'.heap[b]? = w.heap[b]?) : KidRow B v acc w' := by
  obtain ⟨csl, h1, h2, ⟨h3, h3'⟩, h4⟩ := h
  refine ⟨csl, h1, h2, ⟨h3, h3'.imp id ?_⟩, fun i t cs hi hc => NeedIs.mono (fun p hp => World.cell?_of_block (w := w) (hb _ hp.1 hp.2.1)) (fun b hb => ⟨hb.1, Nat.lt_of_lt_of_le hb.2.1 hs, hb.2.2⟩) t cs (h4 i t cs hi hc)⟩
  rintro ⟨g, cap, cur, e1, e2, e3, e4⟩
  exact ⟨g, cap, cur, e1, e2, by rw [hb g e2 (Array.getElem?_eq_some_iff.1 e3).1]; exact e3, e4⟩
theorem KidRow.push {B B' : Nat} {v v' : Value} {acc : List NT} {csl : List (List Value)} {t : NT} {cs : List Value} {w w' : World} {o : Obj} (h1 : csl.length = acc.length) (h2 : ∀ cs ∈ csl, cs.length = 10)
    (h4 : ∀ (i : Nat) t cs, acc[i]? = some t → csl[i]? = some cs → NeedIs (fun b => B ≤ b ∧ b < w.heap.size ∧ v.ownBlock ≠ some b) w t cs)
    (hB : B ≤ B') (hv : ∀ g, v.ownBlock = some g → g < B') (hn : NeedIs (fun b => B' ≤ b ∧ b < w.heap.size) w t cs) (hc : cs.length = 10)
    (h5 : w'.ownsRow B 26 10 v' (acc.length + 1) (csl.flatten ++ cs)) (h6 : (w.alloc o).grownBy w' v.ownBlock) (h7 : v'.ownBlock = v.ownBlock ∨ v'.ownBlock = some (w.alloc o).heap.size) : KidRow B v' (acc ++ [t]) w' := by
  have e := alloc_size w o
  have hsz : w.heap.size ≤ w'.heap.size := by have := h6.size; omega
  have hcell : ∀ p : Addr, p.block < w.heap.size → v.ownBlock ≠ some p.block → w'.cell? p = w.cell? p := fun p hp hne => by
    rw [World.cell?_of_block (w := w.alloc o) (a := p) (h6.block p.block (by omega) (fun e => hne e.symm))]
    exact (Keep.alloc w o).cell hp
  have hne : ∀ b, b < w.heap.size → v.ownBlock ≠ some b → v'.ownBlock ≠ some b := fun b hb hn => by
    rcases h7 with h7 | h7
    · rw [h7]; exact hn
    · rw [h7]; intro e; have := Option.some.inj e; omega
  refine ⟨csl ++ [cs], by simp [h1], fun x hx => ?_, by simpa using h5, fun i u x hu hx => ?_⟩
  · rcases List.mem_append.1 hx with hx | hx
    · exact h2 x hx
    · rw [List.mem_singleton.1 hx]; exact hc
  · by_cases hi : i < acc.length
    · rw [List.getElem?_append_left hi] at hu
      rw [List.getElem?_append_left (by omega)] at hx
      exact NeedIs.mono (fun p hp => hcell p hp.2.1 hp.2.2) (fun b hb => ⟨hb.1, by omega, hne b hb.2.1 hb.2.2⟩) u x (h4 i u x hu hx)
    · have hi2 : i = acc.length := by
        have := (List.getElem?_eq_some_iff.1 hu).1
        simp at this; omega
      subst hi2
      rw [List.getElem?_append_right (Nat.le_refl _), Nat.sub_self] at hu
      rw [← h1, List.getElem?_append_right (Nat.le_refl _), Nat.sub_self] at hx
      cases hu; cases hx
      have hvn : ∀ b, B' ≤ b → v.ownBlock ≠ some b := fun b hb e => by have := hv b e; omega
      exact NeedIs.mono (fun p hp => hcell p hp.2 (hvn _ hp.1)) (fun b hb => ⟨by omega, by omega, hne b hb.2 (hvn b hb.1)⟩) t cs hn
theorem flatten_get {csl : List (List Value)} (h2 : ∀ cs ∈ csl, cs.length = 10) : ∀ (i : Nat) (cs : List Value), csl[i]? = some cs → ∀ (m : Nat) (v : Value), cs[m]? = some v → csl.flatten[i * 10 + m]? = some v := by
  induction csl with
  | nil => intro i cs h; simp at h
  | cons c r ih =>
    intro i cs h m v hv
    have hc : c.length = 10 := h2 c (by simp)
    cases i with
    | zero =>
      simp at h; subst h
      have hm : m < c.length := (List.getElem?_eq_some_iff.1 hv).1
      rw [List.flatten_cons, Nat.zero_mul, Nat.zero_add, List.getElem?_append_left hm]; exact hv
    | succ i =>
      rw [List.flatten_cons, List.getElem?_append_right (by omega), show (i + 1) * 10 + m - c.length = i * 10 + m by omega]
      exact ih (fun x hx => h2 x (by simp [hx])) i cs (by simpa using h) m v hv
theorem KidRow.final {B : Nat} {v : Value} {acc : List NT} {w : World} (h : KidRow B v acc w) : ∃ kp cap, v = .slice kp acc.length cap ∧ acc.length ≤ cap ∧ acc.length ≤ 9223372036854775807 ∧ KidsIs (fun b => B ≤ b ∧ b < w.heap.size) w acc kp 0 := by
  obtain ⟨csl, h1, h2, ⟨h3, ⟨rfl, h0⟩ | ⟨g, cap, cur, rfl, e2, e3, e4, e5, e6, e7⟩⟩, h4⟩ := h
  · obtain rfl := List.length_eq_zero_iff.1 h0
    exact ⟨none, 0, rfl, Nat.le_refl _, by simp, by rw [KidsIs]; trivial⟩
  · refine ⟨some ⟨g, 0, none⟩, cap, rfl, e4, by unfold maxLen at e5; omega, ?_⟩
    have hg := (Array.getElem?_eq_some_iff.1 e3).1
    have key : ∀ (ts : List NT) (i : Nat), ts = acc.drop i → i + ts.length = acc.length → KidsIs (fun b => B ≤ b ∧ b < w.heap.size) w ts (some ⟨g, 0, none⟩) i := by
      intro ts
      induction ts with
      | nil => intro i _ _; rw [KidsIs]; trivial
      | cons t ts ih =>
        intro i he hl
        rw [List.length_cons] at hl
        have hi : i < acc.length := by omega
        rw [List.drop_eq_getElem_cons hi] at he
        injection he with he1 he2
        rw [KidsIs]
        refine ⟨⟨⟨g, 0, none⟩, csl[i], rfl, ⟨e2, hg⟩, fun m u hu => ?_, ?_⟩, ih (i + 1) he2 (by omega)⟩
        · have hlen : csl[i].length = 10 := h2 _ (List.getElem_mem _)
          have hm : m < 10 := by rw [← hlen]; exact (List.getElem?_eq_some_iff.1 hu).1
          have hf := flatten_get h2 i csl[i] (List.getElem?_eq_getElem (by omega)) m u hu
          have ha : ((⟨g, 0, none⟩ : Addr).add (i * 10)).add m = ⟨g, i * 10 + m, none⟩ := by
            rw [Addr.add_mid, Addr.add_mid, Nat.zero_add]
          rw [ha]
          rw [← e7, List.getElem?_take, if_pos (by omega)] at hf
          simp only [World.cell?, e3]
          simpa using hf
        · rw [he1]
          exact NeedIs.mono (fun _ _ => rfl) (fun b hb => ⟨hb.1, hb.2.1⟩) _ _ (h4 i _ _ (List.getElem?_eq_getElem hi) (List.getElem?_eq_getElem (by omega)))
    exact key acc 0 (by simp) (by simp)
theorem apart_set {rb B : Nat} {w wr W : World} (ha : Apart (One rb) w wr) (hk : Below B wr W) (hB : w.heap.size ≤ B) : Apart (One rb) w W :=
  ⟨hk.os.trans ha.os, hk.tape.trans ha.tape, hk.output.trans ha.output, Nat.le_trans ha.size hk.size, fun b hb ho => (hk.block b (by omega)).trans (ha.block b hb ho), fun _ _ h => h⟩
theorem many_news {w : World} {cs : List Value} {T : TypeId} (j : Nat) (u : Value) (h : cs[j]? = some u) : (w.alloc (.cells cs.toArray T)).cell? ((⟨w.heap.size, 0, none⟩ : Addr).add j) = some u := by
  rw [Addr.add_mid, Nat.zero_add]
  have : (w.alloc (.cells cs.toArray T)).heap[w.heap.size]? = some (.cells cs.toArray T (0, 0)) := by
    show (w.heap.push _)[w.heap.size]? = _
    rw [Array.getElem?_push, if_pos rfl]
  simp only [World.cell?, this]
  simpa using h
theorem NBox.grown {b : Nat} {cs : Array Value} {w w' : World} {o : Obj} {row : Option Nat} (h : NBox b cs w) (hg : (w.alloc o).grownBy w' row) (hne : row ≠ some b) : NBox b cs w' := by
  have h1 := h.keep (Keep.alloc w o) h.facts.2.2
  have hl := h1.facts.2.2
  unfold NBox at *; rw [hg.block b hl (fun e => hne e.symm)]; exact h1
theorem NBox.set9 {b : Nat} {v0 v1 v2 v3 v4 v5 v6 v7 v8 v9 : Value} {w : World} (h : NBox b #[v0, v1, v2, v3, v4, v5, v6, v7, v8, v9] w) (x : Value) : NBox b #[v0, v1, v2, v3, v4, v5, v6, v7, v8, x] (w.setCell ⟨b, 9, none⟩ x) := by
  have h10 := heap_set h 9 x
  simp only [List.setIfInBounds_toArray, List.set_cons_zero, List.set_cons_succ] at h10
  exact h10
theorem set_other (w : World) (b i : Nat) (x : Value) : ∀ k, k ≠ b → (w.setCell ⟨b, i, none⟩ x).heap[k]? = w.heap[k]? := fun k hk => by
  simp [World.setCell, Array.getElem?_modify, Ne.symm hk]
theorem set_size (w : World) (b i : Nat) (x : Value) : (w.setCell ⟨b, i, none⟩ x).heap.size = w.heap.size := by simp [World.setCell]
theorem infoNeed : (Tryz.prog.info? 26).map (fun i => (i.zero, i.size, i.bytes)) = some (some (.agg #[.int .i64 0, .string ⟨#[]⟩, .int .i64 0, .int .i64 0, .int .i64 0, .string ⟨#[]⟩, .bool false, .string ⟨#[]⟩, .bool false, .slice none 0 0]), 10, 120) := by kernel_rfl
end Go.Proofs.YtkckkjpkidcbnaaGreatDoor
