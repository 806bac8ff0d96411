/- General laws of memory, in the words that the other texts use. -/
import Derived.Test.YtbblgmkjgcjcaabRows
import Derived.BigQuiet
import Derived.BigRegion
import Derived.Deep.Cut
import Derived.Deep.CutRange
import Derived.Deep.LoopGhost
import Derived.Deep.MidRow
import Derived.Deep.RegionLaw
import Derived.Deep.RegionHeld3
import Derived.Laws.RangeAny
import Derived.Laws.EntriesVeiled
import Derived.Laws.AppendOwnNone
import Derived.Lib.OthersKept
import Derived.Lib.QuietBelow
import Derived.Maps.AppendAt
import Derived.ProofKit
import Derived.RegionTactic
import Derived.Sort.Grow
import Derived.WalkKit
import Derived.WalkLawsBesides
import Derived.WalkMore
import Derived.WalkSmall
namespace Go.Proofs.Ytbblgmkjgcjcaab
open Go.RowKit Go.Lib

theorem hid {p : Prop} (h : p) : Hid p := h
theorem ret_bool {a b : Bool} (h : a = b) : Ending.returned (.bool a) = .returned (.bool b) := by rw [h]
theorem ret_int {k : IntKind} {a b : Int} (h : a = b) : Ending.returned (.int k a) = .returned (.int k b) := by rw [h]
theorem mk_size (l : List UInt8) : (ByteArray.mk l.toArray).size = l.length := by simp [ByteArray.size]
def Keep (w w' : World) : Prop := Below w.heap.size w w'
theorem Keep.refl (w : World) : Keep w w := Below.refl _ _
theorem Keep.trans {a b c : World} (h : Keep a b) (k : Keep b c) : Keep a c := Below.trans h (Below.mono k h.size)
theorem Keep.alloc (w : World) (o : Obj) : Keep w (w.alloc o) := (Below.refl _ _).alloc (Nat.le_refl _) _
theorem Keep.alloc' {a w : World} (h : Keep a w) (o : Obj) : Keep a (w.alloc o) := h.trans (Keep.alloc w o)
theorem Keep.drew {a w : World} (h : Keep a w) : Keep a w.drew := Below.drew h
theorem Keep.drewN {a w : World} (h : Keep a w) : ∀ n, Keep a (w.drewN n)
  | 0 => h
  | n + 1 => by rw [World.drewN]; exact Keep.drew (Keep.drewN h n)
theorem Keep.set {a w : World} (h : Keep a w) {p : Addr} (hp : a.heap.size ≤ p.block) (u : Value) : Keep a (w.setCell p u) := Below.setCell h hp u
theorem Keep.size {w w' : World} (h : Keep w w') : w.heap.size ≤ w'.heap.size := Below.size h
theorem Keep.cells {W w1 : World} (hb : Keep W w1) : (∀ b o, b < W.heap.size → w1.cell? ⟨b, o, none⟩ = W.cell? ⟨b, o, none⟩) ∧ (∀ b o, b < W.heap.size → w1.frozen? ⟨b, o, none⟩ = W.frozen? ⟨b, o, none⟩) :=
  ⟨fun b o h => Below.cell hb (p := ⟨b, o, none⟩) h, fun b o h => Below.frozen hb (p := ⟨b, o, none⟩) h⟩
theorem heap_set {b : Nat} {cs : Array Value} {T : TypeId} {w : World} (h : w.heap[b]? = some (.cells cs T (0, 0))) (i : Nat) (x : Value) : (w.setCell ⟨b, i, none⟩ x).heap[b]? = some (.cells (cs.setIfInBounds i x) T (0, 0)) := by
  simp [World.setCell, Array.getElem?_modify, h]
theorem below_set (w : World) (b i : Nat) (x : Value) : Below b w (w.setCell ⟨b, i, none⟩ x) := (Below.refl _ _).setCell (p := ⟨b, i, none⟩) (Nat.le_refl _) x
/-- What a call leaves of what lay there: all blocks but those that are its own (Own). -/
structure Apart (Own : World → Nat → Prop) (w w' : World) : Prop where
  os : w'.os = w.os
  tape : w'.tape = w.tape
  output : w'.output = w.output
  size : w.heap.size ≤ w'.heap.size
  block : ∀ b, b < w.heap.size → ¬ Own w b → w'.heap[b]? = w.heap[b]?
  own : ∀ b, b < w.heap.size → Own w' b → Own w b
theorem Apart.cell {Own : World → Nat → Prop} {w w' : World} (h : Apart Own w w') (p : Addr) (hp : p.block < w.heap.size) (ho : ¬ Own w p.block) : w'.cell? p = w.cell? p :=
  World.cell?_of_block (w := w) (h.block p.block hp ho)
theorem Apart.refl (Own : World → Nat → Prop) (w : World) : Apart Own w w := ⟨rfl, rfl, rfl, Nat.le_refl _, fun _ _ _ => rfl, fun _ _ h => h⟩
theorem Apart.trans {Own : World → Nat → Prop} {a b c : World} (h : Apart Own a b) (k : Apart Own b c) : Apart Own a c where
  os := k.os.trans h.os
  tape := k.tape.trans h.tape
  output := k.output.trans h.output
  size := Nat.le_trans h.size k.size
  block p hp ho := by
    rw [k.block p (Nat.lt_of_lt_of_le hp h.size) (fun e => ho (h.own _ hp e)), h.block p hp ho]
  own b hb e := h.own b hb (k.own b (Nat.lt_of_lt_of_le hb h.size) e)
/-- What owns no block below B has left all of them alone. -/
theorem Apart.below {Own : World → Nat → Prop} {w w' : World} (h : Apart Own w w') {B : Nat} (hB : B ≤ w.heap.size) (ho : ∀ b, b < B → ¬ Own w b) : Below B w w' :=
  ⟨h.os, h.tape, h.output, h.size, fun k hk => h.block k (Nat.lt_of_lt_of_le hk hB) (ho k hk)⟩
/-- A variable of one cell, at block c. -/
def VarAt (c : Nat) (T : TypeId) (v : Value) (w : World) : Prop := w.heap[c]? = some (.cells #[v] T (0, 0))
theorem VarAt.facts {c : Nat} {T : TypeId} {v : Value} {w : World} (h : VarAt c T v w) : w.cell? ⟨c, 0, none⟩ = some v ∧ w.frozen? ⟨c, 0, none⟩ = false ∧ c < w.heap.size := by
  unfold VarAt at h
  refine ⟨by simp [World.cell?, h], by simp [World.frozen?, h], (Array.getElem?_eq_some_iff.1 h).1⟩
theorem VarAt.set {c : Nat} {T : TypeId} {v : Value} {w : World} (h : VarAt c T v w) (x : Value) : VarAt c T x (w.setCell ⟨c, 0, none⟩ x) := by
  have := heap_set h 0 x
  unfold VarAt
  rw [this]; rfl
theorem VarAt.keep {c B : Nat} {T : TypeId} {v : Value} {w w' : World} (h : VarAt c T v w) (k : Below B w w') (hB : c < B) : VarAt c T v w' := by
  unfold VarAt at *; rw [k.block c hB]; exact h
theorem VarAt.new (w : World) (T : TypeId) (v : Value) : VarAt w.heap.size T v (w.alloc (.cells #[v] T)) := by
  show (w.heap.push _)[w.heap.size]? = _
  rw [Array.getElem?_push, if_pos rfl]
/-- The one block that is its own. -/
def One (c : Nat) (_ : World) (b : Nat) : Prop := b = c
theorem one_keep {c : Nat} {w w' : World} (k : Keep w w') : Apart (One c) w w' :=
  ⟨k.os, k.tape, k.output, k.size, fun b hb _ => k.block b hb, fun _ _ h => h⟩
theorem one_set (c : Nat) (w : World) (x : Value) : Apart (One c) w (w.setCell ⟨c, 0, none⟩ x) := by
  have k : Below c w (w.setCell ⟨c, 0, none⟩ x) := below_set w c 0 x
  refine ⟨k.os, k.tape, k.output, k.size, fun b _ ho => ?_, fun _ _ h => h⟩
  exact Below.heap_setCell _ _ _ _ (fun e => ho e)
theorem alloc_size (w : World) (o : Obj) : (w.alloc o).heap.size = w.heap.size + 1 := by simp
theorem at_calls {P : Program} {F : FuncId} {args : Array Value} {W : World} {Q : Ending → World → Prop} (R : World → Prop) (hR : R W) (h : ∀ W', R W' → Calls P F args W' Q) : Calls P F args W Q := h W hR
theorem at_wp {P : Program} {c : Code} {Q : Exit → Act → World → Prop} {a : Act} {W : World} (R : World → Prop) (hR : R W) (h : ∀ W', R W' → c.wp P Q a W') : c.wp P Q a W := h W hR
theorem at_ret {P : Program} {fn : Func} {R : Ending → World → Prop} {a : Act} {W : World} {v : Value} (T : World → Prop) (hT : T W) (hd : a.defers = []) (h : ∀ W', T W' → (results fn a.tmps).run P W' = .ok v W' ∧ R (.returned v) W') : bodyPost P fn R .ret a W :=
  bodyPost_ret (h W hT).1 hd (h W hT).2
theorem below_cells {S : Nat → Prop} {B : Nat} {w w' : World} (hS : ∀ b, S b → b < B) (k : Below B w w') : ∀ p : Addr, S p.block → w'.cell? p = w.cell? p :=
  fun p hp => k.cell (p := p) (hS _ hp)
theorem owns_lt {B e sz n : Nat} {v : Value} {xs : List Value} {w : World} (h : w.ownsRow B e sz v n xs) {g : Nat} (hg : v.ownBlock = some g) : B ≤ g ∧ g < w.heap.size := by
  obtain ⟨-, ⟨rfl, -⟩ | ⟨g', cap, cur, rfl, e2, e3, -⟩⟩ := h
  · cases hg
  · cases hg
    exact ⟨e2, (Array.getElem?_eq_some_iff.1 e3).1⟩
theorem owns_keep {B e sz n : Nat} {v : Value} {xs : List Value} {w w' : World} (h : w.ownsRow B e sz v n xs) (k : Keep w w') : w'.ownsRow B e sz v n xs := by
  obtain ⟨h1, h2⟩ := h
  refine ⟨h1, h2.imp id ?_⟩
  rintro ⟨g, cap, cur, e1, e2, e3, e4, e5, e6, e7⟩
  exact ⟨g, cap, cur, e1, e2, by rw [k.block g (Array.getElem?_eq_some_iff.1 e3).1]; exact e3, e4, e5, e6, e7⟩
theorem owns_shape {B e sz n : Nat} {v : Value} {xs : List Value} {w : World} (h : w.ownsRow B e sz v n xs) (hn : 0 < n) : ∃ g cap, v = .slice (some ⟨g, 0, none⟩) n cap := by
  obtain ⟨-, ⟨-, h0⟩ | ⟨g, cap, cur, e1, -⟩⟩ := h
  · omega
  · exact ⟨g, cap, e1⟩
theorem owns_other {B e sz n : Nat} {v : Value} {xs : List Value} {w w' : World} (h : w.ownsRow B e sz v n xs) (hb : ∀ g, v.ownBlock = some g → w'.heap[g]? = w.heap[g]?) : w'.ownsRow B e sz v n xs := by
  obtain ⟨h1, h2⟩ := h
  refine ⟨h1, h2.imp id ?_⟩
  rintro ⟨g, cap, cur, rfl, e2, e3, e4⟩
  exact ⟨g, cap, cur, rfl, e2, by rw [hb g rfl]; exact e3, e4⟩
theorem owns_in {B e sz n : Nat} {v : Value} {xs : List Value} {w : World} (h : w.ownsRow B e sz v n xs) {g : Nat} (hg : v.ownBlock = some g) : B ≤ g ∧ g < w.heap.size := by
  obtain ⟨-, ⟨rfl, -⟩ | ⟨g', cap, cur, rfl, e2, e3, -⟩⟩ := h
  · cases hg
  · cases hg; exact ⟨e2, (Array.getElem?_eq_some_iff.1 e3).1⟩
/-- The block b holds these cells. -/
def BoxAt (b : Nat) (T : TypeId) (cs : Array Value) (w : World) : Prop := w.heap[b]? = some (.cells cs T (0, 0))
theorem BoxAt.facts {b : Nat} {T : TypeId} {cs : Array Value} {w : World} (h : BoxAt b T cs w) : (∀ o, w.cell? ⟨b, o, none⟩ = cs[o]?) ∧ (∀ o, w.frozen? ⟨b, o, none⟩ = false) ∧ b < w.heap.size := by
  unfold BoxAt at h
  refine ⟨fun o => by simp [World.cell?, h], fun o => by simp [World.frozen?, h], (Array.getElem?_eq_some_iff.1 h).1⟩
theorem BoxAt.new (w : World) (T : TypeId) (cs : Array Value) : BoxAt w.heap.size T cs (w.alloc (.cells cs T)) := by
  show (w.heap.push _)[w.heap.size]? = _
  rw [Array.getElem?_push, if_pos rfl]
theorem BoxAt.keep {b B : Nat} {T : TypeId} {cs : Array Value} {w w' : World} (h : BoxAt b T cs w) (k : Below B w w') (hB : b < B) : BoxAt b T cs w' := by
  unfold BoxAt at *; rw [k.block b hB]; exact h
theorem BoxAt.set {b : Nat} {T : TypeId} {cs : Array Value} {w : World} (h : BoxAt b T cs w) (o : Nat) (x : Value) : BoxAt b T (cs.setIfInBounds o x) (w.setCell ⟨b, o, none⟩ x) := by
  have := heap_set h o x
  unfold BoxAt
  rw [this]
/-- The box of the atom, cell by cell. -/
def Boxed (b : Nat) (cs : Array Value) (w : World) : Prop := b < w.heap.size ∧ ∀ o, w.cell? ⟨b, o, none⟩ = cs[o]?
theorem Boxed.new (w : World) (cs : Array Value) (t : TypeId) : Boxed w.heap.size cs (w.alloc (.cells cs t)) :=
  ⟨by simp, fun o => by show (match (w.alloc (.cells cs t)).heap[w.heap.size]? with | some (Obj.cells c _ _) => c[o]? | _ => none) = _; rw [show (w.alloc (.cells cs t)).heap[w.heap.size]? = some (.cells cs t) from by show (w.heap.push _)[w.heap.size]? = _; simp]⟩
attribute [local simp] mk_size
theorem Boxed.keep {b B : Nat} {cs : Array Value} {w w' : World} (h : Boxed b cs w) (k : Below B w w') (hB : b < B) : Boxed b cs w' :=
  ⟨Nat.lt_of_lt_of_le h.1 k.size, fun o => (k.cell (p := ⟨b, o, none⟩) hB).trans (h.2 o)⟩
theorem BoxAt.boxed {b : Nat} {T : TypeId} {cs : Array Value} {w : World} (h : BoxAt b T cs w) : Boxed b cs w := ⟨h.facts.2.2, h.facts.1⟩
theorem BoxAt.apart {b c : Nat} {T : TypeId} {cs : Array Value} {w w' : World} (h : BoxAt b T cs w) (ha : Apart (One c) w w') (hb : b ≠ c) : BoxAt b T cs w' := by
  have hl := h.facts.2.2
  unfold BoxAt at *; rw [ha.block b hl (fun e => hb e)]; exact h
theorem VarAt.apart {b c : Nat} {T : TypeId} {v : Value} {w w' : World} (h : VarAt b T v w) (ha : Apart (One c) w w') (hb : b ≠ c) : VarAt b T v w' := by
  have hl := h.facts.2.2
  unfold VarAt at *; rw [ha.block b hl (fun e => hb e)]; exact h
theorem one_setO (c o : Nat) (w : World) (x : Value) : Apart (One c) w (w.setCell ⟨c, o, none⟩ x) := by
  have k : Below c w (w.setCell ⟨c, o, none⟩ x) := below_set w c o x
  refine ⟨k.os, k.tape, k.output, k.size, fun b _ ho => ?_, fun _ _ h => h⟩
  exact Below.heap_setCell _ _ _ _ (fun e => ho e)
theorem grown_undrew {w w' : World} {row : Option Nat} (h : w.drew.grownBy w' row) : w.grownBy w' row := ⟨h.os, h.tape, h.output, h.size, h.block⟩
theorem drewN_add (w : World) (a b : Nat) : (w.drewN a).drewN b = w.drewN (a + b) := by
  unfold World.drewN; simp [Nat.add_assoc]
theorem infoInt : (Try.prog.info? 3).map (fun i => (i.zero, i.size, i.bytes)) = some (some (.int .i64 0), 1, 8) := by kernel_rfl
/-- A row of numbers that a slice leads to. -/
def IntsAt (v : Value) (zs : List Int) (w : World) : Prop := (zs = [] ∧ v = .slice none 0 0) ∨ ∃ g cap, v = .slice (some ⟨g, 0, none⟩) zs.length cap ∧ g < w.heap.size ∧ ∀ (j : Nat) x, zs[j]? = some x → w.cell? ⟨g, j, none⟩ = some (.int .i64 x)
theorem IntsAt.keep {v : Value} {zs : List Int} {w w' : World} (h : IntsAt v zs w) (k : Keep w w') : IntsAt v zs w' := by
  rcases h with h | ⟨g, cap, h1, h2, h3⟩
  · exact Or.inl h
  · exact Or.inr ⟨g, cap, h1, Nat.lt_of_lt_of_le h2 k.size, fun j x hx => (k.cell (p := ⟨g, j, none⟩) h2).trans (h3 j x hx)⟩
theorem IntsAt.len {v : Value} {zs : List Int} {w : World} (h : IntsAt v zs w) : ∃ p cap, v = .slice p zs.length cap := by
  rcases h with ⟨rfl, h⟩ | ⟨g, cap, h, -⟩
  · exact ⟨none, 0, h⟩
  · exact ⟨_, cap, h⟩
theorem IntsAt.getD {v : Value} {zs : List Int} {w : World} (h : IntsAt v zs w) (hn : 0 < zs.length) : ∃ g cap, v = .slice (some ⟨g, 0, none⟩) zs.length cap ∧ g < w.heap.size ∧ (∀ j, j < zs.length → w.cell? ⟨g, 0 + j, none⟩ = some (.int .i64 (zs.getD j 0))) := by
  rcases h with ⟨rfl, -⟩ | ⟨g, cap, h1, h2, h3⟩
  · exact absurd hn (Nat.not_lt_zero _)
  · refine ⟨g, cap, h1, h2, fun j hj => ?_⟩
    rw [Nat.zero_add, List.getD_eq_getElem?_getD, List.getElem?_eq_getElem hj, Option.getD_some]
    exact h3 j _ (List.getElem?_eq_getElem hj)
def IntsOwn (B : Nat) (v : Value) (zs : List Int) (w : World) : Prop := w.ownsRow B 3 1 v zs.length (zs.map (Value.int .i64))
theorem one_cellI {s : Int} (u : Value) (h : u ∈ [Value.int .i64 s]) : u.oneCell' = true := by rw [List.mem_singleton.1 h]; rfl
theorem IntsOwn.ints {B : Nat} {v : Value} {zs : List Int} {w : World} (h : IntsOwn B v zs w) : IntsAt v zs w := by
  obtain ⟨hlen, ⟨rfl, h0⟩ | ⟨g, cap, cur, rfl, hbase, hb, hn1, hn2, hn3, hn4⟩⟩ := h
  · exact Or.inl ⟨List.length_eq_zero_iff.1 h0, rfl⟩
  · refine Or.inr ⟨g, cap, rfl, (Array.getElem?_eq_some_iff.1 hb).1, fun j x hx => ?_⟩
    have hj : j < zs.length := (List.getElem?_eq_some_iff.1 hx).1
    have h1 := congrArg (·[j]?) hn4
    simp only [Nat.mul_one, List.getElem?_take, List.getElem?_map, hx, Option.map_some] at h1
    rw [if_pos hj] at h1
    simp only [World.cell?, hb]
    simpa using h1
theorem ints_push {B : Nat} {v v' : Value} {zs : List Int} {x : Int} {w w' : World} {o : Obj} (hB : B ≤ w.heap.size) (hw : IntsOwn B v zs w) (h1 : w'.ownsRow B 3 1 v' (zs.length + 1) (zs.map (Value.int .i64) ++ [.int .i64 x])) (h2 : (w.alloc o).grownBy w' v.ownBlock) :
    IntsOwn B v' (zs ++ [x]) w' ∧ Below B w w' := by
  refine ⟨?_, ?_⟩
  · unfold IntsOwn
    rw [List.length_append, List.map_append]
    exact h1
  · exact Below.grown ((Below.refl B w).alloc hB o) h2 (by have := alloc_size w o; omega) (fun g hg => (owns_lt hw hg).1)
/-- The value leads to a row of bools, in blocks of S. -/
def BoolsIs (S : Nat → Prop) (w : World) (bs : List Bool) (v : Value) : Prop :=
  ∃ (p : Option Addr) (cap : Nat), v = .slice p bs.length cap ∧ bs.length ≤ 9223372036854775807 ∧ (0 < bs.length → ∃ b off, p = some ⟨b, off, none⟩ ∧ S b ∧ ∀ (j : Nat) (x : Bool), bs[j]? = some x → w.cell? ⟨b, off + j, none⟩ = some (.bool x))
/-- The value leads to a row of numbers. -/
def NumsIs (S : Nat → Prop) (w : World) (zs : List Int) (v : Value) : Prop :=
  ∃ (p : Option Addr) (cap : Nat), v = .slice p zs.length cap ∧ zs.length ≤ 9223372036854775807 ∧ (0 < zs.length → ∃ b off, p = some ⟨b, off, none⟩ ∧ S b ∧ ∀ (j : Nat) (x : Int), zs[j]? = some x → w.cell? ⟨b, off + j, none⟩ = some (.int .i64 x))
section
variable {S S' : Nat → Prop} {w w' : World}
theorem NumsIs.mono (hw : ∀ p : Addr, S p.block → w'.cell? p = w.cell? p) (hS : ∀ b, S b → S' b) {zs : List Int} {v : Value} (h : NumsIs S w zs v) : NumsIs S' w' zs v := by
  obtain ⟨p, cap, h1, h2, h3⟩ := h
  refine ⟨p, cap, h1, h2, fun h => ?_⟩
  obtain ⟨b, off, h4, h5, h6⟩ := h3 h
  exact ⟨b, off, h4, hS _ h5, fun j x hx => (hw ⟨b, off + j, none⟩ h5).trans (h6 j x hx)⟩
theorem BoolsIs.mono (hw : ∀ p : Addr, S p.block → w'.cell? p = w.cell? p) (hS : ∀ b, S b → S' b) {bs : List Bool} {v : Value} (h : BoolsIs S w bs v) : BoolsIs S' w' bs v := by
  obtain ⟨p, cap, h1, h2, h3⟩ := h
  refine ⟨p, cap, h1, h2, fun h => ?_⟩
  obtain ⟨b, off, h4, h5, h6⟩ := h3 h
  exact ⟨b, off, h4, hS _ h5, fun j x hx => (hw ⟨b, off + j, none⟩ h5).trans (h6 j x hx)⟩
theorem BoolsIs.keep {B : Nat} (hS : ∀ b, S b → b < B) (k : Below B w w') {bs : List Bool} {v : Value} (h : BoolsIs S w bs v) : BoolsIs S w' bs v := h.mono (below_cells hS k) fun _ h => h
theorem NumsIs.keep {B : Nat} (hS : ∀ b, S b → b < B) (k : Below B w w') {zs : List Int} {v : Value} (h : NumsIs S w zs v) : NumsIs S w' zs v := h.mono (below_cells hS k) fun _ h => h
end
theorem NumsIs.len {S : Nat → Prop} {w : World} {zs : List Int} {v : Value} (h : NumsIs S w zs v) : ∃ p cap, v = .slice p zs.length cap ∧ zs.length ≤ 9223372036854775807 := by
  obtain ⟨p, cap, h1, h2, -⟩ := h; exact ⟨p, cap, h1, h2⟩
theorem NumsIs.get {S : Nat → Prop} {w : World} {zs : List Int} {p : Option Addr} {n cap : Nat} (h : NumsIs S w zs (.slice p n cap)) (hk : 0 < zs.length) : ∃ b off, p = some ⟨b, off, none⟩ ∧ S b ∧ ∀ j, j < zs.length → w.cell? ⟨b, off + j, none⟩ = some (.int .i64 (zs.getD j 0)) := by
  obtain ⟨p', cap', e, -, h3⟩ := h
  cases e
  obtain ⟨b, off, rfl, h5, h6⟩ := h3 (by omega)
  refine ⟨b, off, rfl, h5, fun j hj => ?_⟩
  rw [List.getD_eq_getElem?_getD, List.getElem?_eq_getElem hj, Option.getD_some]
  exact h6 j _ (List.getElem?_eq_getElem hj)
/-- append to a row of the call's own, as one step of a region that draws its order. -/
theorem step_append_own {P : Program} {ops : Array Oper} {o : Oper} {a : Act} {w : World} {K : Act → World → Prop} {Q : Exit → Act → World → Prop} {E : Prop}
    (hg : o.guard = none) (s x : Operand) (t : TypeId) (hop : o.op = Op.call { callee := Callee.builtin Builtin.append, args := #[s, x], argTypes := #[t, t] })
    (base : Nat) (e : TypeId) (i : TypeInfo) (z : Value) (size bytes : Nat) (ht : P.underlying t = some (.slice e)) (hi : P.info? e = some i) (hz : i.zero = some z)
    (hsize : i.size = size) (hby : i.bytes = bytes) (hzs : z.cells.size = size) (hsz : 0 < size)
    (v : Value) (n : Nat) (xs : List Value) (hs : a.eval s = v) (hown : w.ownsRow base e size v n xs)
    (ad : Addr) (m c : Nat) (news : List Value) (hx : a.eval x = .slice (some ad) m c) (hl : news.length = m * size) (hnews : ∀ j u, news[j]? = some u → w.cell? (ad.add j) = some u) (h1 : ∀ u ∈ news, u.oneCell' = true)
    (h63 : n + m ≤ maxLen) (hbytes : (n + m) * bytes ≤ 140737488355328) (hbase : base ≤ w.heap.size)
    (hK : ∀ v' w', w'.ownsRow base e size v' (n + m) (xs ++ news) → w.grownBy w' v.ownBlock → (v'.ownBlock = v.ownBlock ∨ v'.ownBlock = some w.heap.size) → K (a.put o.dst v') w') :
    if Region.wanted o (yielded ops a.tmps) = true then Oper.wp P o a w K Q else E := by
  have hw : Region.wanted o (yielded ops a.tmps) = true := by simp [Region.wanted, hg]
  rw [if_pos hw]
  obtain ⟨v', w', hr, h2, h3, -, h5⟩ := run_append_own_at (P := P) w base t o.type e i z size bytes ht hi hz hsize hby hzs hsz v n xs hown ad m c news hl hnews h1 h63 hbytes hbase
  unfold Oper.wp
  simp [execOp, hop, resolve, invoke, builtin, hs, hx, hr, Result.andThen]
  exact hK v' w' h2 h3 h5
theorem VarAt.grown {c : Nat} {T : TypeId} {v : Value} {w w' : World} {o : Obj} {row : Option Nat} (h : VarAt c T v w) (hg : (w.alloc o).grownBy w' row) (hne : row ≠ some c) : VarAt c T v w' := by
  have h1 := h.keep (Keep.alloc w o) h.facts.2.2
  have hl := h1.facts.2.2
  unfold VarAt at *; rw [hg.block c hl (fun e => hne e.symm)]; exact h1
theorem VarAt.grew {c g : Nat} {T : TypeId} {v : Value} {w w' : World} (h : VarAt c T v w) (hg : w.grownBy w' (some g)) (hne : c ≠ g) : VarAt c T v w' := by
  have hl := h.facts.2.2
  unfold VarAt at *; rw [hg.block c hl (fun e => hne (Option.some.inj e))]; exact h
end Go.Proofs.Ytbblgmkjgcjcaab
