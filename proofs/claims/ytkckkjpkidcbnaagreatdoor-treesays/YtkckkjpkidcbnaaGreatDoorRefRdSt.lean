/- The state of quartermasterref.ReadNeed between two words. -/
import Derived.Test.YtkckkjpkidcbnaaGreatDoorRefPut
import Derived.Test.YtkckkjpkidcbnaaGreatDoorRefRead
import Derived.Test.YtkckkjpkidcbnaaGreatDoorRefCheckNeed
namespace Go.Proofs.YtkckkjpkidcbnaaGreatDoor
open Go.RowKit

theorem VarAt.out_set {c d o : Nat} {T : TypeId} {v : Value} {w : World} (h : VarAt c T v w) (hne : c ≠ d) (x : Value) : VarAt c T v (w.setCell ⟨d, o, none⟩ x) := by
  unfold VarAt at *; rw [set_other w d o x c hne]; exact h
theorem set_comm (w : World) (a b i j : Nat) (x y : Value) (h : a ≠ b) : (w.setCell ⟨a, i, none⟩ x).setCell ⟨b, j, none⟩ y = (w.setCell ⟨b, j, none⟩ y).setCell ⟨a, i, none⟩ x := by
  simp only [World.setCell]
  congr 1
  apply Array.ext_getElem?
  intro k
  simp only [Array.getElem?_modify]
  by_cases h1 : a = k
  · subst h1
    simp [Ne.symm h]
  · by_cases h2 : b = k
    · subst h2
      simp [h]
    · simp [h1, h2]
/-- What is open, what is whole, what is answered, the words. -/
structure RdSt (w0 : World) (ws : List ByteArray) (v : Value) (st : List NT) (kvs : List Value) (w : World) : Prop where
  stk : Stk (w0.heap.size + 4) v st kvs w
  opn : VarAt (w0.heap.size + 1) 24 v w
  whl : VarAt (w0.heap.size + 1 + 1) 111 (.pointer none) w
  res : NBox w0.heap.size #[.int .i64 0, .string ⟨#[]⟩, .int .i64 0, .int .i64 0, .int .i64 0, .string ⟨#[]⟩, .bool false, .string ⟨#[]⟩, .bool false, .slice none 0 0] w
  wds : ∀ (j : Nat) x, ws[j]? = some x → w.cell? ⟨w0.heap.size + 1 + 1 + 1, j, none⟩ = some (.string x)
  low : w0.heap.size + 4 ≤ w.heap.size
  kep : Keep w0 w
section
variable {w0 : World} {ws : List ByteArray} {v v' : Value} {st st' : List NT} {kvs kvs' : List Value} {w w' : World}
theorem RdSt.keep (h : RdSt w0 ws v st kvs w) (k : Keep w w') : RdSt w0 ws v st kvs w' :=
  ⟨h.stk.keep k, h.opn.keep k h.opn.facts.2.2, h.whl.keep k h.whl.facts.2.2, h.res.keep k h.res.facts.2.2, fun j x hx => (k.cell (p := ⟨w0.heap.size + 1 + 1 + 1, j, none⟩) (by have := h.low; simp only; omega)).trans (h.wds j x hx), Nat.le_trans h.low k.size, h.kep.trans k⟩
theorem RdSt.below (h : RdSt w0 ws v st kvs w) (b : Below (w0.heap.size + 4) w w') (s : Stk (w0.heap.size + 4) v st' kvs' w') : RdSt w0 ws v st' kvs' w' :=
  ⟨s, h.opn.keep b (by omega), h.whl.keep b (by omega), h.res.keep b (by omega), fun j x hx => (b.cell (p := ⟨w0.heap.size + 1 + 1 + 1, j, none⟩) (by simp only; omega)).trans (h.wds j x hx), Nat.le_trans h.low b.size, Below.trans h.kep (Below.mono b (by omega))⟩
theorem RdSt.move (h : RdSt w0 ws v st kvs w) (b : Below (w0.heap.size + 4) w w') (s : Stk (w0.heap.size + 4) v' st' kvs' w') : RdSt w0 ws v' st' kvs' (w'.setCell ⟨w0.heap.size + 1, 0, none⟩ v') := by
  have hs : w'.heap.size ≤ (w'.setCell ⟨w0.heap.size + 1, 0, none⟩ v').heap.size := by rw [set_size]; exact Nat.le_refl _
  refine ⟨s.other hs fun c hc _ => set_other w' _ _ _ c (by omega), (h.opn.keep b (by omega)).set v', (h.whl.keep b (by omega)).out_set (by omega) _, (h.res.keep b (by omega)).out_set (by omega) _, fun j x hx => ?_, Nat.le_trans (Nat.le_trans h.low b.size) hs, ?_⟩
  · have e : (w'.setCell ⟨w0.heap.size + 1, 0, none⟩ v').cell? ⟨w0.heap.size + 1 + 1 + 1, j, none⟩ = w'.cell? ⟨w0.heap.size + 1 + 1 + 1, j, none⟩ := World.cell?_of_block (w := w') (set_other w' _ _ _ _ (by simp only; omega))
    rw [e]
    exact (b.cell (p := ⟨w0.heap.size + 1 + 1 + 1, j, none⟩) (by simp only; omega)).trans (h.wds j x hx)
  · exact Below.setCell (Below.trans h.kep (Below.mono b (by omega))) (p := ⟨w0.heap.size + 1, 0, none⟩) (by simp only; omega) v'
end
/-- What is known behind the append of a need to what is open. -/
structure PushAt (w0 : World) (v : Value) (st : List NT) (kvs : List Value) (g5 cap5 nb : Nat) (cs : Array Value) (w w5 : World) : Prop where
  row : w5.ownsRow (w0.heap.size + 4) 26 10 (.slice (some ⟨g5, 0, none⟩) (st.length + 1) cap5) (st.length + 1) ((stCells st kvs).flatten ++ [.int .i64 0, .string ⟨#[]⟩, .int .i64 0, .int .i64 0, .int .i64 0, .string ⟨#[]⟩, .bool false, .string ⟨#[]⟩, .bool false, .slice none 0 0])
  opn : VarAt (w0.heap.size + 1) 24 v w5
  box : NBox nb cs w5
  or : some g5 = v.ownBlock ∨ w.heap.size ≤ g5
  rest : ∀ b, b < w.heap.size → v.ownBlock ≠ some b → w5.heap[b]? = w.heap[b]?
  low : Below (w0.heap.size + 4) w w5
  size : w.heap.size ≤ w5.heap.size
  ne : w0.heap.size + 4 ≤ g5
theorem push_at {w0 : World} {ws : List ByteArray} {v : Value} {st : List NT} {kvs : List Value} {g5 cap5 nb : Nat} {cs : Array Value} {w W1 w5 : World} {o : Obj} (h : RdSt w0 ws v st kvs w) (k1 : Keep w W1) (hb : NBox nb cs W1) (hnb : w.heap.size ≤ nb)
    (h1 : w5.ownsRow (w0.heap.size + 4) 26 10 (.slice (some ⟨g5, 0, none⟩) (st.length + 1) cap5) (st.length + 1) ((stCells st kvs).flatten ++ [.int .i64 0, .string ⟨#[]⟩, .int .i64 0, .int .i64 0, .int .i64 0, .string ⟨#[]⟩, .bool false, .string ⟨#[]⟩, .bool false, .slice none 0 0])) (h2 : (W1.alloc o).grownBy w5 v.ownBlock) (h3 : (Value.slice (some ⟨g5, 0, none⟩) (st.length + 1) cap5).ownBlock = v.ownBlock ∨ (Value.slice (some ⟨g5, 0, none⟩) (st.length + 1) cap5).ownBlock = some (W1.heap.size + 1)) : PushAt w0 v st kvs g5 cap5 nb cs w w5 := by
  have hsz := k1.size
  have ha := alloc_size W1 o
  have hvl : ∀ b, v.ownBlock = some b → w0.heap.size + 4 ≤ b ∧ b < w.heap.size := fun b e => h.stk.live (Or.inl e)
  have hr : ∀ b, b < w.heap.size → v.ownBlock ≠ some b → w5.heap[b]? = w.heap[b]? := fun b hb hn => by
    rw [h2.block b (by omega) (fun e => hn e.symm), (Keep.alloc W1 o).block b (by omega), k1.block b hb]
  have lw : Below (w0.heap.size + 4) w w5 := Below.trans (Below.mono k1 h.low) (((Below.refl _ W1).alloc (by have := h.low; omega) o).grown h2 (by have := h.low; omega) (fun g' hg' => (hvl g' hg').1))
  refine ⟨h1, h.opn.keep lw (by omega), hb.grown h2 (fun e => by have := (hvl _ e).2; omega), ?_, hr, lw, by have := h2.size; omega, (owns_in h1 (g := g5) rfl).1⟩
  rcases h3 with h3 | h3
  · exact Or.inl h3
  · have := Option.some.inj h3; simp only at this; exact Or.inr (by omega)
theorem PushAt.cells {w0 : World} {v : Value} {st : List NT} {kvs : List Value} {g5 cap5 nb : Nat} {cs : Array Value} {w w5 : World} (h : PushAt w0 v st kvs g5 cap5 nb cs w w5) (hlen : kvs.length = st.length) : ∀ j u, ([.int .i64 0, .string ⟨#[]⟩, .int .i64 0, .int .i64 0, .int .i64 0, .string ⟨#[]⟩, .bool false, .string ⟨#[]⟩, .bool false, .slice none 0 0] : List Value)[j]? = some u → w5.cell? ⟨g5, st.length * 10 + j, none⟩ = some u := fun j u hu => by
  have hj : j < 10 := (List.getElem?_eq_some_iff.1 hu).1
  rw [h.row.cellAt (st.length * 10 + j) (by omega), List.getElem?_append_right (by rw [st_flat hlen]; omega), st_flat hlen, Nat.add_sub_cancel_left]; exact hu
theorem push_st {w0 : World} {ws : List ByteArray} {v : Value} {st : List NT} {kvs : List Value} {g5 cap5 nb : Nat} {cs : Array Value} {w w5 : World} (t : NT) (v0 v1 v2 v3 v4 v5 v6 v7 v8 v9 : Value) (h : RdSt w0 ws v st kvs w) (p : PushAt w0 v st kvs g5 cap5 nb cs w w5) (ht : t.kids = []) (ht10 : t.head9 ++ [.slice none 0 0] = [v0, v1, v2, v3, v4, v5, v6, v7, v8, v9]) :
    RdSt w0 ws (.slice (some ⟨g5, 0, none⟩) (st.length + 1) cap5) (st ++ [t]) (kvs ++ [.slice none 0 0]) (((((((((((w5.setCell ⟨g5, st.length * 10, none⟩ v0).setCell ⟨g5, st.length * 10 + 1, none⟩ v1).setCell ⟨g5, st.length * 10 + 2, none⟩ v2).setCell ⟨g5, st.length * 10 + 3, none⟩ v3).setCell ⟨g5, st.length * 10 + 4, none⟩ v4).setCell ⟨g5, st.length * 10 + 5, none⟩ v5).setCell ⟨g5, st.length * 10 + 6, none⟩ v6).setCell ⟨g5, st.length * 10 + 7, none⟩ v7).setCell ⟨g5, st.length * 10 + 8, none⟩ v8).setCell ⟨g5, st.length * 10 + 9, none⟩ v9).setCell ⟨w0.heap.size + 1, 0, none⟩ (.slice (some ⟨g5, 0, none⟩) (st.length + 1) cap5)) := by
  have hB5 := p.ne
  have sb : ∀ (W : World) (o : Nat) (x : Value), Below (w0.heap.size + 4) w W → Below (w0.heap.size + 4) w (W.setCell ⟨g5, o, none⟩ x) := fun W o x hb => hb.setCell (p := ⟨g5, o, none⟩) hB5 x
  refine h.move (sb _ _ _ (sb _ _ _ (sb _ _ _ (sb _ _ _ (sb _ _ _ (sb _ _ _ (sb _ _ _ (sb _ _ _ (sb _ _ _ (sb _ _ _ p.low)))))))))) (h.stk.push ht (by simp only [set_size]; exact p.size) (fun b _ hb hn => ?_) ?_ ?_)
  · have hb5 : b ≠ g5 := by
      rcases p.or with e | e
      · intro e2; rw [e2] at hn; exact hn e.symm
      · omega
    simp only [set_other _ g5 _ _ b hb5]
    exact p.rest b hb hn
  · rcases p.or with e | e
    · exact Or.inl e
    · exact Or.inr ⟨g5, rfl, e⟩
  · rw [ht10]
    exact own_fill p.row (st_flat h.stk.len) v0 v1 v2 v3 v4 v5 v6 v7 v8 v9
theorem fill_comm {st : List NT} (w5 : World) (ob g5 : Nat) (x v0 v1 v2 v3 v4 v5 v6 v7 v8 v9 : Value) (h : ob ≠ g5) : (((((((((((w5.setCell ⟨ob, 0, none⟩ x).setCell ⟨g5, st.length * 10, none⟩ v0).setCell ⟨g5, st.length * 10 + 1, none⟩ v1).setCell ⟨g5, st.length * 10 + 2, none⟩ v2).setCell ⟨g5, st.length * 10 + 3, none⟩ v3).setCell ⟨g5, st.length * 10 + 4, none⟩ v4).setCell ⟨g5, st.length * 10 + 5, none⟩ v5).setCell ⟨g5, st.length * 10 + 6, none⟩ v6).setCell ⟨g5, st.length * 10 + 7, none⟩ v7).setCell ⟨g5, st.length * 10 + 8, none⟩ v8).setCell ⟨g5, st.length * 10 + 9, none⟩ v9) = ((((((((((w5.setCell ⟨g5, st.length * 10, none⟩ v0).setCell ⟨g5, st.length * 10 + 1, none⟩ v1).setCell ⟨g5, st.length * 10 + 2, none⟩ v2).setCell ⟨g5, st.length * 10 + 3, none⟩ v3).setCell ⟨g5, st.length * 10 + 4, none⟩ v4).setCell ⟨g5, st.length * 10 + 5, none⟩ v5).setCell ⟨g5, st.length * 10 + 6, none⟩ v6).setCell ⟨g5, st.length * 10 + 7, none⟩ v7).setCell ⟨g5, st.length * 10 + 8, none⟩ v8).setCell ⟨g5, st.length * 10 + 9, none⟩ v9).setCell ⟨ob, 0, none⟩ x := by
  simp only [set_comm _ ob g5 0 _ x _ h]
theorem badN_any (w : World) :
    Calls Tryz.prog 73 #[] w fun e w' => e = .returned (.tuple #[.agg #[.int .i64 0, .string ⟨#[]⟩, .int .i64 0, .int .i64 0, .int .i64 0, .string ⟨#[]⟩, .bool false, .string ⟨#[]⟩, .bool false, .slice none 0 0], .int .i64 1]) ∧ Keep w w' := by
  go_enter Tryz.func73, Tryz.ntmps73
  go_wp2
  exact bodyPost_ret (v := .tuple #[.agg #[.int .i64 0, .string ⟨#[]⟩, .int .i64 0, .int .i64 0, .int .i64 0, .string ⟨#[]⟩, .bool false, .string ⟨#[]⟩, .bool false, .slice none 0 0], .int .i64 1]) (by simp [results, Tryz.results73, go_sem]) rfl ⟨rfl, Keep.alloc _ _⟩
theorem enter_badN (args : Array Value) (w : World) : (callFunc 73 args).run Tryz.prog w = .ok (.enter 73 args) w := enters_of Tryz.func73 (by kernel_rfl) rfl args w
end Go.Proofs.YtkckkjpkidcbnaaGreatDoor
