/- A package's own block, written whole; rows of words that lie in a block. -/
import Derived.Test.YtkckkjpkidcbnaaGreatDoorTreeMeant
import Derived.Deep.RegionHeld3
namespace Go.Proofs.YtkckkjpkidcbnaaGreatDoor
open Go.RowKit

def PBox (b : Nat) (cs : Array Value) (w : World) : Prop := w.heap[b]? = some (.cells cs 58 (0, 0))
theorem PBox.facts {b : Nat} {cs : Array Value} {w : World} (h : PBox b cs w) : (∀ o, w.cell? ⟨b, o, none⟩ = cs[o]?) ∧ (∀ o, w.frozen? ⟨b, o, none⟩ = false) ∧ b < w.heap.size := by
  unfold PBox at h
  refine ⟨fun o => by simp [World.cell?, h], fun o => by simp [World.frozen?, h], (Array.getElem?_eq_some_iff.1 h).1⟩
theorem PBox.new (w : World) (cs : Array Value) : PBox w.heap.size cs (w.alloc (.cells cs 58)) := by
  show (w.heap.push _)[w.heap.size]? = _
  rw [Array.getElem?_push, if_pos rfl]
theorem PBox.keep {b B : Nat} {cs : Array Value} {w w' : World} (h : PBox b cs w) (k : Below B w w') (hB : b < B) : PBox b cs w' := by
  unfold PBox at h ⊢; rw [k.block b hB]; exact h
theorem array14 {α : Type} {cs : Array α} (h : cs.size = 14) : ∃ c0 c1 c2 c3 c4 c5 c6 c7 c8 c9 c10 c11 c12 c13, cs = #[c0, c1, c2, c3, c4, c5, c6, c7, c8, c9, c10, c11, c12, c13] := by
  obtain ⟨l⟩ := cs
  match l, h with
  | [c0, c1, c2, c3, c4, c5, c6, c7, c8, c9, c10, c11, c12, c13], _ => exact ⟨c0, c1, c2, c3, c4, c5, c6, c7, c8, c9, c10, c11, c12, c13, rfl⟩
theorem PBox.set {b : Nat} {cs : Array Value} {w : World} (h : PBox b cs w) (hs : cs.size = 14) (v0 v1 v2 v3 v4 v5 v6 v7 v8 v9 v10 v11 v12 v13 : Value) :
    PBox b #[v0, v1, v2, v3, v4, v5, v6, v7, v8, v9, v10, v11, v12, v13] ((((((((((((((w.setCell ⟨b, 0, none⟩ v0).setCell ⟨b, 1, none⟩ v1).setCell ⟨b, 2, none⟩ v2).setCell ⟨b, 3, none⟩ v3).setCell ⟨b, 4, none⟩ v4).setCell ⟨b, 5, none⟩ v5).setCell ⟨b, 6, none⟩ v6).setCell ⟨b, 7, none⟩ v7).setCell ⟨b, 8, none⟩ v8).setCell ⟨b, 9, none⟩ v9).setCell ⟨b, 10, none⟩ v10).setCell ⟨b, 11, none⟩ v11).setCell ⟨b, 12, none⟩ v12).setCell ⟨b, 13, none⟩ v13) ∧ Below b w ((((((((((((((w.setCell ⟨b, 0, none⟩ v0).setCell ⟨b, 1, none⟩ v1).setCell ⟨b, 2, none⟩ v2).setCell ⟨b, 3, none⟩ v3).setCell ⟨b, 4, none⟩ v4).setCell ⟨b, 5, none⟩ v5).setCell ⟨b, 6, none⟩ v6).setCell ⟨b, 7, none⟩ v7).setCell ⟨b, 8, none⟩ v8).setCell ⟨b, 9, none⟩ v9).setCell ⟨b, 10, none⟩ v10).setCell ⟨b, 11, none⟩ v11).setCell ⟨b, 12, none⟩ v12).setCell ⟨b, 13, none⟩ v13) ∧ ((((((((((((((w.setCell ⟨b, 0, none⟩ v0).setCell ⟨b, 1, none⟩ v1).setCell ⟨b, 2, none⟩ v2).setCell ⟨b, 3, none⟩ v3).setCell ⟨b, 4, none⟩ v4).setCell ⟨b, 5, none⟩ v5).setCell ⟨b, 6, none⟩ v6).setCell ⟨b, 7, none⟩ v7).setCell ⟨b, 8, none⟩ v8).setCell ⟨b, 9, none⟩ v9).setCell ⟨b, 10, none⟩ v10).setCell ⟨b, 11, none⟩ v11).setCell ⟨b, 12, none⟩ v12).setCell ⟨b, 13, none⟩ v13).heap.size = w.heap.size ∧ ∀ k, k ≠ b → ((((((((((((((w.setCell ⟨b, 0, none⟩ v0).setCell ⟨b, 1, none⟩ v1).setCell ⟨b, 2, none⟩ v2).setCell ⟨b, 3, none⟩ v3).setCell ⟨b, 4, none⟩ v4).setCell ⟨b, 5, none⟩ v5).setCell ⟨b, 6, none⟩ v6).setCell ⟨b, 7, none⟩ v7).setCell ⟨b, 8, none⟩ v8).setCell ⟨b, 9, none⟩ v9).setCell ⟨b, 10, none⟩ v10).setCell ⟨b, 11, none⟩ v11).setCell ⟨b, 12, none⟩ v12).setCell ⟨b, 13, none⟩ v13).heap[k]? = w.heap[k]? := by
  obtain ⟨c0, c1, c2, c3, c4, c5, c6, c7, c8, c9, c10, c11, c12, c13, rfl⟩ := array14 hs
  refine ⟨?_, ?_, ?_, ?_⟩
  · have h10 := heap_set (heap_set (heap_set (heap_set (heap_set (heap_set (heap_set (heap_set (heap_set (heap_set (heap_set (heap_set (heap_set (heap_set (h) 0 v0) 1 v1) 2 v2) 3 v3) 4 v4) 5 v5) 6 v6) 7 v7) 8 v8) 9 v9) 10 v10) 11 v11) 12 v12) 13 v13
    simp only [List.setIfInBounds_toArray, List.set_cons_zero, List.set_cons_succ] at h10
    exact h10
  · exact (((((((((((((((Below.refl b w).setCell (p := ⟨b, 0, none⟩) (Nat.le_refl _) v0).setCell (p := ⟨b, 1, none⟩) (Nat.le_refl _) v1).setCell (p := ⟨b, 2, none⟩) (Nat.le_refl _) v2).setCell (p := ⟨b, 3, none⟩) (Nat.le_refl _) v3).setCell (p := ⟨b, 4, none⟩) (Nat.le_refl _) v4).setCell (p := ⟨b, 5, none⟩) (Nat.le_refl _) v5).setCell (p := ⟨b, 6, none⟩) (Nat.le_refl _) v6).setCell (p := ⟨b, 7, none⟩) (Nat.le_refl _) v7).setCell (p := ⟨b, 8, none⟩) (Nat.le_refl _) v8).setCell (p := ⟨b, 9, none⟩) (Nat.le_refl _) v9).setCell (p := ⟨b, 10, none⟩) (Nat.le_refl _) v10).setCell (p := ⟨b, 11, none⟩) (Nat.le_refl _) v11).setCell (p := ⟨b, 12, none⟩) (Nat.le_refl _) v12).setCell (p := ⟨b, 13, none⟩) (Nat.le_refl _) v13)
  · simp [World.setCell]
  · intro k hk
    simp [World.setCell, Array.getElem?_modify, Ne.symm hk]
theorem at_ret {P : Program} {fn : Func} {R : Ending → World → Prop} {a : Act} {W : World} {v : Value} (T : World → Prop) (hT : T W) (hd : a.defers = []) (h : ∀ W', T W' → (results fn a.tmps).run P W' = .ok v W' ∧ R (.returned v) W') : bodyPost P fn R .ret a W :=
  bodyPost_ret (h W hT).1 hd (h W hT).2
def zeroP : List Value := [.string ⟨#[]⟩, .int .i64 0, .int .i64 0, .slice none 0 0, .int .i64 0, .string ⟨#[]⟩, .int .i64 0, .int .i64 0, .int .i64 0, .string ⟨#[]⟩, .bool false, .string ⟨#[]⟩, .bool false, .slice none 0 0]
theorem words5 {l : List Word} (h : l.length ≠ 5) : wordsE l = 1 := by
  match l, h with
  | [], _ => rfl
  | [_], _ => rfl
  | [_, _], _ => rfl
  | [_, _, _], _ => rfl
  | [_, _, _, _], _ => rfl
  | [_, _, _, _, _], h => exact absurd rfl h
  | _ :: _ :: _ :: _ :: _ :: _ :: _, _ => rfl
theorem splitK_many (sep : List UInt8) : ∀ (k : Nat) (l : List UInt8), (Lib.splitK sep 0 k l).length ≤ k + 1
  | 0, _ => by simp [Lib.splitK]
  | k + 1, l => by
    rw [Lib.splitK]
    split
    · simp
    · have := splitK_many sep k (l.drop ((Lib.index l sep).toNat + sep.length))
      simp only [List.length_cons]; omega
/-- The words of a line. -/
theorem line_words (s : ByteArray) : ∃ ws : List ByteArray, ws = Lib.splitB ⟨#[32]⟩ 0 (min 5 (s.size + 1) - 1) s ∧ ws.length ≤ min 5 (s.size + 1) ∧ ws.map (·.data.toList) = Lib.splitN s.data.toList [32] 5 ∧ ∀ x ∈ ws, x.size ≤ s.size := by
  have hsz : s.data.toList.length = s.size := size_list s
  have hd : (Lib.splitB ⟨#[32]⟩ 0 (min 5 (s.size + 1) - 1) s).map (·.data.toList) = Lib.splitN s.data.toList [32] 5 := by
    unfold Lib.splitN; rw [hsz]; exact Lib.splitB_data ⟨#[32]⟩ 0 _ s
  refine ⟨_, rfl, ?_, hd, fun x hx => ?_⟩
  · have := splitK_many [32] (min 5 (s.size + 1) - 1) s.data.toList
    have e := congrArg List.length hd
    rw [List.length_map] at e
    unfold Lib.splitN at e
    rw [hsz] at e
    omega
  · have : x.data.toList ∈ Lib.splitN s.data.toList [32] 5 := by rw [← hd]; exact List.mem_map.2 ⟨x, hx, rfl⟩
    have h2 := splitK_len _ _ _ this
    rw [size_list, size_list] at h2
    exact h2
theorem cellsOf_get {ws : List ByteArray} {m j : Nat} {x : ByteArray} (h : ws[j]? = some x) : (Lib.cellsOf ws m)[j]? = some (.string x) := by
  have hj := (List.getElem?_eq_some_iff.1 h).1
  unfold Lib.cellsOf
  rw [List.getElem?_toArray, List.getElem?_append_left (by simpa using hj), List.getElem?_map, h]; rfl

set_option maxHeartbeats 2000000 in
theorem readFlags_any (s : ByteArray) (w : World) (hM : MaxAt w) (hs : s.size ≤ 20000) :
    Calls Tryz.prog 141 #[.string s] w fun e w' => ∃ v, e = .returned v ∧ StrsIs (fun b => w.heap.size ≤ b ∧ b < w'.heap.size) w' (flagsW s.data.toList) v ∧ Keep w w' := by
  rcases word_is s [] with ⟨h1, h2, h3⟩ | ⟨h1, h2, h3⟩
  · have HF : Hid (flagsW s.data.toList = []) := by show _ = _; unfold flagsW; rw [if_pos h1]
    clear h1
    go_enter Tryz.func141, Tryz.ntmps141
    go_wp2_with fail
    go_ret
    exact ⟨_, rfl, Or.inl ⟨HF.out, none, 0, rfl⟩, Keep.refl _⟩
  · have HF : Hid (flagsW s.data.toList = (Lib.split s.data.toList [44]).map fun x => ⟨x.toArray⟩) := by show _ = _; unfold flagsW; rw [if_neg h1]
    obtain ⟨hml, mm, hmm⟩ := hM
    have hl := Lib.splitB_all ⟨#[44]⟩ (by decide) 0 _ s rfl
    have hc := Lib.countB_le ⟨#[44]⟩ (by decide) s.size s (Nat.le_refl _)
    have hd : (Lib.splitB ⟨#[44]⟩ 0 (Lib.countB s ⟨#[44]⟩) s).map (·.data.toList) = Lib.split s.data.toList [44] := Lib.splitB_data ⟨#[44]⟩ 0 _ s
    have HFS : Hid (flagsW s.data.toList = Lib.splitB ⟨#[44]⟩ 0 (Lib.countB s ⟨#[44]⟩) s) := by
      show _ = _
      rw [HF.out, ← hd, List.map_map]
      conv => rhs; rw [← List.map_id (Lib.splitB ⟨#[44]⟩ 0 (Lib.countB s ⟨#[44]⟩) s)]
      apply List.map_congr_left
      intro x _; exact bytes_back x
    have HL := hid hl
    have HC := hid hc
    clear h1 hd hl hc HF
    go_enter Tryz.func141, Tryz.ntmps141
    go_wp2_with fail
    refine (Tryz.strings_Split s ⟨#[44]⟩ mm w (by omega) hmm (by decide)).mono ?_
    rintro e w1 ⟨rfl, hw1⟩
    have K1 : Hid (Keep w w1) := by rw [hw1]; exact Keep.alloc _ _
    have HS1 : Hid (w1.heap.size = w.heap.size + 1) := by show _ = _; rw [hw1, alloc_size]
    have HC1 : Hid (∀ (j : Nat) (x : ByteArray), (Lib.splitB ⟨#[44]⟩ 0 (Lib.countB s ⟨#[44]⟩) s)[j]? = some x → w1.cell? ⟨w.heap.size, 0 + j, none⟩ = some (.string x)) := by
      intro j x hx
      rw [hw1]
      have := many_news (w := w) (cs := (Lib.splitB ⟨#[44]⟩ 0 (Lib.countB s ⟨#[44]⟩) s).map Value.string) (T := 9) j (.string x) (by simp [hx])
      rwa [Addr.add_mid] at this
    clear hw1 hmm
    go_wp2_with fail
    go_ret
    refine ⟨_, rfl, Or.inr ⟨w.heap.size, 0, Lib.countB s ⟨#[44]⟩ + 1, ?_, ⟨⟨Nat.le_refl _, by rw [HS1.out]; omega⟩, by rw [HFS.out, HL.out]; exact Nat.le_refl _⟩, ?_, ?_⟩, K1.out⟩
    · rw [HFS.out, HL.out]; rfl
    · rw [HFS.out, HL.out]; have := HC.out; omega
    · rw [HFS.out]; exact HC1.out
end Go.Proofs.YtkckkjpkidcbnaaGreatDoor
/- tree.readLine answers with the package that a line says, or with an error, as the document says. -/
namespace Go.Proofs.YtkckkjpkidcbnaaGreatDoor
open Go.RowKit

/-- What readLine answers. -/
def LineDone (l : List UInt8) (w : World) (e : Ending) (w' : World) : Prop :=
  ∃ cs : List Value, e = .returned (.tuple #[.agg cs.toArray, .int .i64 (lineE l)]) ∧ (lineE l = 0 → PkgIs (fun b => w.heap.size ≤ b ∧ b < w'.heap.size) w' (lineP l) cs) ∧ (lineE l ≠ 0 → cs = zeroP) ∧ Keep w w'
/-- The words of a line as they lie in block b. -/
def WsAt (b : Nat) (ws : List ByteArray) (w : World) : Prop := b < w.heap.size ∧ ∀ (j : Nat) (x : ByteArray), ws[j]? = some x → w.cell? ⟨b, j, none⟩ = some (.string x)
theorem WsAt.keep {b : Nat} {ws : List ByteArray} {w w' : World} (h : WsAt b ws w) (k : Keep w w') : WsAt b ws w' := ⟨Nat.lt_of_lt_of_le h.1 k.size, fun j x hx => (k.cell (p := ⟨b, j, none⟩) h.1).trans (h.2 j x hx)⟩
/-- What stays as it was while the answer is put together. -/
structure LineEnv (w5 : World) (bp bw bn : Nat) (ws : List ByteArray) (nb : Array Value) (W : World) : Prop where
  keep : Keep w5 W
  pbox : PBox bp #[.string ⟨#[]⟩, .int .i64 0, .int .i64 0, .slice none 0 0, .int .i64 0, .string ⟨#[]⟩, .int .i64 0, .int .i64 0, .int .i64 0, .string ⟨#[]⟩, .bool false, .string ⟨#[]⟩, .bool false, .slice none 0 0] W
  words : WsAt bw ws W
  nbox : Boxed bn nb W
theorem LineEnv.on {w5 : World} {bp bw bn : Nat} {ws : List ByteArray} {nb : Array Value} {W W' : World} (h : LineEnv w5 bp bw bn ws nb W) (k : Keep W W') : LineEnv w5 bp bw bn ws nb W' :=
  ⟨h.keep.trans k, h.pbox.keep k h.pbox.facts.2.2, h.words.keep k, h.nbox.keep k h.nbox.1⟩
theorem LineEnv.cells {w5 : World} {bp bw bn : Nat} {x0 x1 x2 x3 x4 : ByteArray} {nb : Array Value} {W : World} (h : LineEnv w5 bp bw bn [x0, x1, x2, x3, x4] nb W) :
    W.cell? ⟨bw, 0, none⟩ = some (.string x0) ∧ W.cell? ⟨bw, 3, none⟩ = some (.string x3) ∧ ∀ o, W.cell? ⟨bn, o, none⟩ = nb[o]? :=
  ⟨h.words.2 0 _ rfl, h.words.2 3 _ rfl, h.nbox.2⟩
theorem LineEnv.after {w5 : World} {bp bw bn : Nat} {x0 x1 x2 x3 x4 : ByteArray} {nb : Array Value} {w : World} (h : LineEnv w5 bp bw bn [x0, x1, x2, x3, x4] nb w) (h1 : bw ≠ bp) (h2 : bn ≠ bp) (v0 v1 v2 v3 v4 v5 v6 v7 v8 v9 v10 v11 v12 v13 : Value) :
    ((((((((((((((w.setCell ⟨bp, 0, none⟩ v0).setCell ⟨bp, 1, none⟩ v1).setCell ⟨bp, 2, none⟩ v2).setCell ⟨bp, 3, none⟩ v3).setCell ⟨bp, 4, none⟩ v4).setCell ⟨bp, 5, none⟩ v5).setCell ⟨bp, 6, none⟩ v6).setCell ⟨bp, 7, none⟩ v7).setCell ⟨bp, 8, none⟩ v8).setCell ⟨bp, 9, none⟩ v9).setCell ⟨bp, 10, none⟩ v10).setCell ⟨bp, 11, none⟩ v11).setCell ⟨bp, 12, none⟩ v12).setCell ⟨bp, 13, none⟩ v13).cell? ⟨bw, 0, none⟩ = some (.string x0) ∧ ((((((((((((((w.setCell ⟨bp, 0, none⟩ v0).setCell ⟨bp, 1, none⟩ v1).setCell ⟨bp, 2, none⟩ v2).setCell ⟨bp, 3, none⟩ v3).setCell ⟨bp, 4, none⟩ v4).setCell ⟨bp, 5, none⟩ v5).setCell ⟨bp, 6, none⟩ v6).setCell ⟨bp, 7, none⟩ v7).setCell ⟨bp, 8, none⟩ v8).setCell ⟨bp, 9, none⟩ v9).setCell ⟨bp, 10, none⟩ v10).setCell ⟨bp, 11, none⟩ v11).setCell ⟨bp, 12, none⟩ v12).setCell ⟨bp, 13, none⟩ v13).cell? ⟨bw, 3, none⟩ = some (.string x3) ∧ ∀ o, ((((((((((((((w.setCell ⟨bp, 0, none⟩ v0).setCell ⟨bp, 1, none⟩ v1).setCell ⟨bp, 2, none⟩ v2).setCell ⟨bp, 3, none⟩ v3).setCell ⟨bp, 4, none⟩ v4).setCell ⟨bp, 5, none⟩ v5).setCell ⟨bp, 6, none⟩ v6).setCell ⟨bp, 7, none⟩ v7).setCell ⟨bp, 8, none⟩ v8).setCell ⟨bp, 9, none⟩ v9).setCell ⟨bp, 10, none⟩ v10).setCell ⟨bp, 11, none⟩ v11).setCell ⟨bp, 12, none⟩ v12).setCell ⟨bp, 13, none⟩ v13).cell? ⟨bn, o, none⟩ = nb[o]? := by
  have k := (h.pbox.set rfl v0 v1 v2 v3 v4 v5 v6 v7 v8 v9 v10 v11 v12 v13).2.2.2
  have c := h.cells
  generalize ((((((((((((((w.setCell ⟨bp, 0, none⟩ v0).setCell ⟨bp, 1, none⟩ v1).setCell ⟨bp, 2, none⟩ v2).setCell ⟨bp, 3, none⟩ v3).setCell ⟨bp, 4, none⟩ v4).setCell ⟨bp, 5, none⟩ v5).setCell ⟨bp, 6, none⟩ v6).setCell ⟨bp, 7, none⟩ v7).setCell ⟨bp, 8, none⟩ v8).setCell ⟨bp, 9, none⟩ v9).setCell ⟨bp, 10, none⟩ v10).setCell ⟨bp, 11, none⟩ v11).setCell ⟨bp, 12, none⟩ v12).setCell ⟨bp, 13, none⟩ v13) = W' at k ⊢
  exact ⟨(World.cell?_of_block (w := w) (k bw h1)).trans c.1, (World.cell?_of_block (w := w) (k bw h1)).trans c.2.1, fun o => (World.cell?_of_block (w := w) (k bn h2)).trans (c.2.2 o)⟩
def FlNew (w5 : World) (fs : List ByteArray) (v : Value) (W : World) : Prop := StrsIs (fun b => w5.heap.size ≤ b ∧ b < W.heap.size) W fs v
theorem FlNew.on {w5 W W' : World} {fs : List ByteArray} {v : Value} (h : FlNew w5 fs v W) (k : Keep W W') : FlNew w5 fs v W' :=
  StrsIs.mono (fun p hp => k.cell (p := p) hp.2) (fun _ hb => ⟨hb.1, Nat.lt_of_lt_of_le hb.2 k.size⟩) h
theorem list5 {α : Type} {cs : List α} (h : cs.length = 5) : ∃ c0 c1 c2 c3 c4, cs = [c0, c1, c2, c3, c4] := by
  match cs, h with
  | [c0, c1, c2, c3, c4], _ => exact ⟨c0, c1, c2, c3, c4, rfl⟩

set_option maxHeartbeats 4000000 in
set_option maxRecDepth 100000 in
theorem readLine_any (s : ByteArray) (w : World) (hE : Env w) (hM : MaxAt w) (hs : s.size ≤ 20000) :
    Calls Tryz.prog 83 #[.string s] w fun e w' => LineDone s.data.toList w e w' := by
  obtain ⟨ws, hws, hwl, hwd, hwx⟩ := line_words s
  have HLE : Hid (lineE s.data.toList = wordsE (ws.map (·.data.toList))) := by show _ = _; unfold lineE; rw [hwd]
  have HLP : Hid (lineP s.data.toList = wordsP (ws.map (·.data.toList))) := by show _ = _; unfold lineP; rw [hwd]
  have HE := hid hE
  have HM := hid hM
  have HWX := hid hwx
  clear hwd hE hM hwx
  go_enter Tryz.func83, Tryz.ntmps83
  go_wp2_with fail
  refine at_calls (fun W' => Keep w W' ∧ PBox w.heap.size #[.string ⟨#[]⟩, .int .i64 0, .int .i64 0, .slice none 0 0, .int .i64 0, .string ⟨#[]⟩, .int .i64 0, .int .i64 0, .int .i64 0, .string ⟨#[]⟩, .bool false, .string ⟨#[]⟩, .bool false, .slice none 0 0] W') ⟨Keep.alloc _ _, PBox.new _ _⟩ ?_
  rintro W1 ⟨k1, b1⟩
  obtain ⟨hml, mm, hmm⟩ := HM.out.keep k1
  refine (Tryz.strings_SplitN s ⟨#[32]⟩ 5 mm W1 (by omega) hmm (by decide) (by decide) (by decide)).mono ?_
  rintro e w2 ⟨rfl, hw2⟩
  rw [← hws] at hw2 ⊢
  have K2 : Hid (Keep w w2) := by rw [hw2]; exact k1.trans (Keep.alloc _ _)
  have B2 : Hid (PBox w.heap.size #[.string ⟨#[]⟩, .int .i64 0, .int .i64 0, .slice none 0 0, .int .i64 0, .string ⟨#[]⟩, .int .i64 0, .int .i64 0, .int .i64 0, .string ⟨#[]⟩, .bool false, .string ⟨#[]⟩, .bool false, .slice none 0 0] w2) := by rw [hw2]; exact b1.keep (Keep.alloc _ _) b1.facts.2.2
  have WS2 : Hid (WsAt W1.heap.size ws w2) := by
    rw [hw2]
    refine ⟨by rw [alloc_size]; omega, fun j x hx => ?_⟩
    have := cellsOf_get (m := min 5 (s.size + 1)) hx
    show (match (W1.heap.push _)[W1.heap.size]? with | some (Obj.cells c _ _) => c[j]? | _ => none) = _
    rw [Array.getElem?_push, if_pos rfl]; exact this
  have hw1s : w.heap.size < W1.heap.size := b1.facts.2.2
  clear hw2 k1 b1 hmm hml hws
  generalize W1.heap.size = bw at WS2 hw1s ⊢
  by_cases h5 : ws.length = 5
  · rw [h5]
    obtain ⟨x0, x1, x2, x3, x4, rfl⟩ := list5 h5
    have HW : Hid (lineE s.data.toList = if numB x1.data.toList = false ∨ numB x2.data.toList = false then 1 else rdE x4.data.toList) := HLE.out
    have HP : Hid (lineP s.data.toList = ⟨⟨x0.data.toList.toArray⟩, numV x1.data.toList, numV x2.data.toList, flagsW x3.data.toList, (rdText x4.data.toList).getD NT.zero⟩) := HLP.out
    have hx0 : x0.size ≤ s.size := HWX.out x0 (by simp)
    have hx1 : x1.size ≤ s.size := HWX.out x1 (by simp)
    have hx2 : x2.size ≤ s.size := HWX.out x2 (by simp)
    have hx3 : x3.size ≤ s.size := HWX.out x3 (by simp)
    have c1 : w2.cell? ⟨bw, 1, none⟩ = some (.string x1) := WS2.out.2 1 _ rfl
    clear HLE HLP HWX h5 hwl
    go_wp2_with fail
    refine (number_any x1 w2 (HE.out.keep K2.out) (by omega)).mono ?_
    rintro e w3 ⟨n1, rfl, hn1, k3⟩
    have K3 := hid (K2.out.trans k3)
    have B3 := hid (B2.out.keep k3 B2.out.facts.2.2)
    have WS3 := hid (WS2.out.keep k3)
    have HN1 := hid hn1
    clear c1 k3 K2 B2 WS2 hn1
    have c2 : w3.cell? ⟨bw, 2, none⟩ = some (.string x2) := WS3.out.2 2 _ rfl
    generalize numB x1.data.toList = β1 at HW HN1 ⊢
    go_wp2_with fail
    refine (number_any x2 w3 (HE.out.keep K3.out) (by omega)).mono ?_
    rintro e w4 ⟨n2, rfl, hn2, k4⟩
    have K4 := hid (K3.out.trans k4)
    have B4 := hid (B3.out.keep k4 B3.out.facts.2.2)
    have WS4 := hid (WS3.out.keep k4)
    have HN2 := hid hn2
    clear c2 k4 K3 B3 WS3 hn2
    generalize numB x2.data.toList = β2 at HW HN2 ⊢
    obtain ⟨hc4, hz4, hl4⟩ := B4.out.facts
    cases β1
    · have HX : Hid (lineE s.data.toList = 1) := by show _ = _; rw [HW.out]; simp
      go_wp2_with fail
      refine at_ret (v := .tuple #[.agg #[.string ⟨#[]⟩, .int .i64 0, .int .i64 0, .slice none 0 0, .int .i64 0, .string ⟨#[]⟩, .int .i64 0, .int .i64 0, .int .i64 0, .string ⟨#[]⟩, .bool false, .string ⟨#[]⟩, .bool false, .slice none 0 0], .int .i64 1]) (fun W' => PBox w.heap.size #[.string ⟨#[]⟩, .int .i64 0, .int .i64 0, .slice none 0 0, .int .i64 0, .string ⟨#[]⟩, .int .i64 0, .int .i64 0, .int .i64 0, .string ⟨#[]⟩, .bool false, .string ⟨#[]⟩, .bool false, .slice none 0 0] W' ∧ Keep w W') ?_ rfl ?_
      · have h := B4.out.set rfl (.string ⟨#[]⟩) (.int .i64 0) (.int .i64 0) (.slice none 0 0) (.int .i64 0) (.string ⟨#[]⟩) (.int .i64 0) (.int .i64 0) (.int .i64 0) (.string ⟨#[]⟩) (.bool false) (.string ⟨#[]⟩) (.bool false) (.slice none 0 0)
        exact ⟨h.1, Below.trans K4.out h.2.1⟩
      rintro W ⟨hb, hk⟩
      obtain ⟨hcW, -, -⟩ := hb.facts
      refine ⟨by simp [results, Tryz.results83, go_sem, hcW], zeroP, by rw [HX.out]; rfl, fun h => absurd (HX.out.symm.trans h) (by decide), fun _ => rfl, hk⟩
    cases β2
    · have HX : Hid (lineE s.data.toList = 1) := by show _ = _; rw [HW.out]; simp
      go_wp2_with fail
      refine at_ret (v := .tuple #[.agg #[.string ⟨#[]⟩, .int .i64 0, .int .i64 0, .slice none 0 0, .int .i64 0, .string ⟨#[]⟩, .int .i64 0, .int .i64 0, .int .i64 0, .string ⟨#[]⟩, .bool false, .string ⟨#[]⟩, .bool false, .slice none 0 0], .int .i64 1]) (fun W' => PBox w.heap.size #[.string ⟨#[]⟩, .int .i64 0, .int .i64 0, .slice none 0 0, .int .i64 0, .string ⟨#[]⟩, .int .i64 0, .int .i64 0, .int .i64 0, .string ⟨#[]⟩, .bool false, .string ⟨#[]⟩, .bool false, .slice none 0 0] W' ∧ Keep w W') ?_ rfl ?_
      · have h := B4.out.set rfl (.string ⟨#[]⟩) (.int .i64 0) (.int .i64 0) (.slice none 0 0) (.int .i64 0) (.string ⟨#[]⟩) (.int .i64 0) (.int .i64 0) (.int .i64 0) (.string ⟨#[]⟩) (.bool false) (.string ⟨#[]⟩) (.bool false) (.slice none 0 0)
        exact ⟨h.1, Below.trans K4.out h.2.1⟩
      rintro W ⟨hb, hk⟩
      obtain ⟨hcW, -, -⟩ := hb.facts
      refine ⟨by simp [results, Tryz.results83, go_sem, hcW], zeroP, by rw [HX.out]; rfl, fun h => absurd (HX.out.symm.trans h) (by decide), fun _ => rfl, hk⟩
    have HX0 : Hid (lineE s.data.toList = rdE x4.data.toList) := by show _ = _; rw [HW.out]; simp
    obtain rfl := HN1.out rfl
    obtain rfl := HN2.out rfl
    have c4 : w4.cell? ⟨bw, 4, none⟩ = some (.string x4) := WS4.out.2 4 _ rfl
    clear HW HN1 HN2 hc4 hz4 hl4
    go_wp2_with fail
    refine (needParse_any x4 w4 (HE.out.keep K4.out) (HM.out.keep K4.out)).mono ?_
    rintro e w5 ⟨cs, rfl, hgood, hbad, k5⟩
    have K5 := hid (K4.out.trans k5)
    have B5 := hid (B4.out.keep k5 B4.out.facts.2.2)
    have WS5 := hid (WS4.out.keep k5)
    have h45 : w4.heap.size ≤ w5.heap.size := k5.size
    have hww4 : w.heap.size < w4.heap.size := B4.out.facts.2.2
    clear c4 k5 K4 B4 WS4
    generalize hre : rdE x4.data.toList = re at HX0 hgood hbad ⊢
    by_cases hz : re = 0
    · subst hz
      obtain ⟨t, ht, hn⟩ := hgood rfl
      have HT : Hid ((rdText x4.data.toList).getD NT.zero = t) := by show _ = _; rw [ht]; rfl
      have HNI := hid hn
      cases htt : t with
      | node k a fl nt kids =>
      have hn' := hn
      rw [htt, NeedIs] at hn'
      obtain ⟨kp, kc, rfl, -, -, -⟩ := hn'
      clear hn hbad hgood hre ht
      go_upto_region 11 with fail
      refine at_wp (fun W' => LineEnv w5 w.heap.size bw w5.heap.size [x0, x1, x2, x3, x4] #[.int .i64 k, .string a.n, .int .i64 a.op, .int .i64 a.v, .int .i64 a.sl, .string a.f, .bool a.on, .string fl, .bool nt, .slice kp kids.length kc] W') ⟨Keep.alloc _ _, B5.out.keep (Keep.alloc _ _) B5.out.facts.2.2, WS5.out.keep (Keep.alloc _ _), Boxed.new _ _ _⟩ ?_
      intro W6 le
      have LE := hid le
      have LD := hid (LE.out.on (show Keep W6 W6.drew from ⟨rfl, rfl, rfl, Nat.le_refl _, fun _ _ => rfl⟩))
      have hne1 : bw ≠ w.heap.size := by omega
      have hne2 : w5.heap.size ≠ w.heap.size := by have := B5.out.facts.2.2; omega
      have e0 : W6.cell? ⟨bw, 0, none⟩ = some (.string x0) := le.words.2 0 _ rfl
      have e3 : W6.cell? ⟨bw, 3, none⟩ = some (.string x3) := le.words.2 3 _ rfl
      have en := le.nbox.2
      have eb := le.words.1
      have el := le.nbox.1
      have ep := le.pbox.facts.1
      have ez := le.pbox.facts.2.1
      have ey := le.pbox.facts.2.2
      clear le
      go_region_held3 (fun W' => W'.cell? ⟨bw, 0, none⟩ = some (.string x0) ∧ W'.cell? ⟨bw, 3, none⟩ = some (.string x3) ∧ ∀ o, W'.cell? ⟨w5.heap.size, o, none⟩ = (#[.int .i64 k, .string a.n, .int .i64 a.op, .int .i64 a.v, .int .i64 a.sl, .string a.f, .bool a.on, .string fl, .bool nt, .slice kp kids.length kc] : Array Value)[o]?) (first | with_reducible exact LE.out.cells | with_reducible exact LD.out.cells | exact LE.out.after hne1 hne2 _ _ _ _ _ _ _ _ _ _ _ _ _ _ | go_keep)
        (first
          | (go_at_call 60; refine (clone_any _ _ (by omega)).mono ?_; rintro e w7 ⟨rfl, k7⟩; (first | (have k8 := keep_undrew k7) | (have k8 := k7)); have LF := hid (LE.out.on k8); clear LE k7 k8; have LE := LF; clear LF; have ep := LE.out.pbox.facts.1; have ez := LE.out.pbox.facts.2.1; have ey := LE.out.pbox.facts.2.2)
          | (go_at_call 141; refine (readFlags_any x3 _ (HM.out.keep (K5.out.trans LE.out.keep)) (by omega)).mono ?_; rintro e w7 ⟨fv, rfl, hf, k7⟩; obtain ⟨fp, fc, rfl, hfl⟩ := hf.len; have FS : Hid (FlNew w5 (flagsW x3.data.toList) (.slice fp (flagsW x3.data.toList).length fc) w7) := StrsIs.mono (fun _ _ => rfl) (fun _ hb => ⟨Nat.le_trans LE.out.keep.size hb.1, hb.2⟩) hf; have LF := hid (LE.out.on k7); clear LE k7 hf; have LE := LF; clear LF; have ep := LE.out.pbox.facts.1; have ez := LE.out.pbox.facts.2.1; have ey := LE.out.pbox.facts.2.2))
      clear ep ez ey en eb el e0 e3 LD
      go_wp2_with fail
      refine at_ret (v := .tuple #[.agg #[.string x0, .int .i64 (numV x1.data.toList), .int .i64 (numV x2.data.toList), .slice fp (flagsW x3.data.toList).length fc, .int .i64 k, .string a.n, .int .i64 a.op, .int .i64 a.v, .int .i64 a.sl, .string a.f, .bool a.on, .string fl, .bool nt, .slice kp kids.length kc], .int .i64 0]) (fun W' => PBox w.heap.size #[.string x0, .int .i64 (numV x1.data.toList), .int .i64 (numV x2.data.toList), .slice fp (flagsW x3.data.toList).length fc, .int .i64 k, .string a.n, .int .i64 a.op, .int .i64 a.v, .int .i64 a.sl, .string a.f, .bool a.on, .string fl, .bool nt, .slice kp kids.length kc] W' ∧ Below w.heap.size w7 W' ∧ W'.heap.size = w7.heap.size ∧ ∀ k, k ≠ w.heap.size → W'.heap[k]? = w7.heap[k]?) (LE.out.pbox.set rfl _ _ _ _ _ _ _ _ _ _ _ _ _ _) rfl ?_
      rintro W ⟨hb, hk, hz, ho⟩
      obtain ⟨hcW, -, -⟩ := hb.facts
      have hco : ∀ p : Addr, p.block ≠ w.heap.size → W.cell? p = w7.cell? p := fun p hp => World.cell?_of_block (w := w7) (ho _ hp)
      have hz7 := LE.out.keep.size
      refine ⟨by simp [results, Tryz.results83, go_sem, hcW], [.string x0, .int .i64 (numV x1.data.toList), .int .i64 (numV x2.data.toList), .slice fp (flagsW x3.data.toList).length fc, .int .i64 k, .string a.n, .int .i64 a.op, .int .i64 a.v, .int .i64 a.sl, .string a.f, .bool a.on, .string fl, .bool nt, .slice kp kids.length kc], by rw [HX0.out], fun _ => ?_, fun h => absurd HX0.out h, Below.trans (K5.out.trans LE.out.keep) hk⟩
      rw [HP.out, HT.out, bytes_back]
      refine ⟨_, _, rfl, ?_, ?_⟩
      · exact StrsIs.mono (fun p hp => hco p (by have := hp.1; omega)) (fun b hb => ⟨by have := hb.1; omega, by rw [hz]; exact hb.2⟩) FS.out
      · exact NeedIs.mono (fun p hp => (hco p (by have := hp.1; omega)).trans (LE.out.keep.cell (p := p) hp.2)) (fun b hb => ⟨by have := hb.1; omega, by rw [hz]; have := hb.2; omega⟩) _ _ HNI.out
    · have HX : Hid (lineE s.data.toList = re) := HX0.out
      obtain rfl := hbad hz
      have hz1 : (re == 0) = false := by simp [hz]
      have hz2 : (re != 0) = true := by simp [hz]
      have HZ := hid hz
      clear hz hgood hbad hre
      unfold zeroL
      go_upto_region 10 with fail
      refine at_wp (fun W' => Keep w W' ∧ PBox w.heap.size #[.string ⟨#[]⟩, .int .i64 0, .int .i64 0, .slice none 0 0, .int .i64 0, .string ⟨#[]⟩, .int .i64 0, .int .i64 0, .int .i64 0, .string ⟨#[]⟩, .bool false, .string ⟨#[]⟩, .bool false, .slice none 0 0] W') ⟨K5.out.alloc' _, B5.out.keep (Keep.alloc _ _) B5.out.facts.2.2⟩ ?_
      rintro W6 ⟨k6, b6⟩
      have K6 := hid k6
      have B6 := hid b6
      obtain ⟨hc6, hz6, hl6⟩ := b6.facts
      clear k6 b6
      go_wp2_with fail
      refine at_ret (v := .tuple #[.agg #[.string ⟨#[]⟩, .int .i64 0, .int .i64 0, .slice none 0 0, .int .i64 0, .string ⟨#[]⟩, .int .i64 0, .int .i64 0, .int .i64 0, .string ⟨#[]⟩, .bool false, .string ⟨#[]⟩, .bool false, .slice none 0 0], .int .i64 re]) (fun W' => PBox w.heap.size #[.string ⟨#[]⟩, .int .i64 0, .int .i64 0, .slice none 0 0, .int .i64 0, .string ⟨#[]⟩, .int .i64 0, .int .i64 0, .int .i64 0, .string ⟨#[]⟩, .bool false, .string ⟨#[]⟩, .bool false, .slice none 0 0] W' ∧ Keep w W') ?_ rfl ?_
      · have h := B6.out.set rfl (.string ⟨#[]⟩) (.int .i64 0) (.int .i64 0) (.slice none 0 0) (.int .i64 0) (.string ⟨#[]⟩) (.int .i64 0) (.int .i64 0) (.int .i64 0) (.string ⟨#[]⟩) (.bool false) (.string ⟨#[]⟩) (.bool false) (.slice none 0 0)
        exact ⟨h.1, Below.trans K6.out h.2.1⟩
      rintro W ⟨hb, hk⟩
      obtain ⟨hcW, -, -⟩ := hb.facts
      refine ⟨by simp [results, Tryz.results83, go_sem, hcW], zeroP, by rw [HX.out]; rfl, fun h => absurd (HX.out.symm.trans h) HZ.out, fun _ => rfl, hk⟩
  · have h5' : (ws.length : Int) < 5 := by omega
    have HX : Hid (lineE s.data.toList = 1) := by show _ = _; rw [HLE.out]; exact words5 (by simpa using h5)
    obtain ⟨hc2, hz2, hl2⟩ := B2.out.facts
    go_wp2_with fail
    refine at_ret (v := .tuple #[.agg #[.string ⟨#[]⟩, .int .i64 0, .int .i64 0, .slice none 0 0, .int .i64 0, .string ⟨#[]⟩, .int .i64 0, .int .i64 0, .int .i64 0, .string ⟨#[]⟩, .bool false, .string ⟨#[]⟩, .bool false, .slice none 0 0], .int .i64 1]) (fun W' => PBox w.heap.size #[.string ⟨#[]⟩, .int .i64 0, .int .i64 0, .slice none 0 0, .int .i64 0, .string ⟨#[]⟩, .int .i64 0, .int .i64 0, .int .i64 0, .string ⟨#[]⟩, .bool false, .string ⟨#[]⟩, .bool false, .slice none 0 0] W' ∧ Keep w W') ?_ rfl ?_
    · have h := B2.out.set rfl (.string ⟨#[]⟩) (.int .i64 0) (.int .i64 0) (.slice none 0 0) (.int .i64 0) (.string ⟨#[]⟩) (.int .i64 0) (.int .i64 0) (.int .i64 0) (.string ⟨#[]⟩) (.bool false) (.string ⟨#[]⟩) (.bool false) (.slice none 0 0)
      exact ⟨h.1, Below.trans K2.out h.2.1⟩
    rintro W ⟨hb, hk⟩
    obtain ⟨hcW, -, -⟩ := hb.facts
    refine ⟨by simp [results, Tryz.results83, go_sem, hcW], zeroP, by rw [HX.out]; rfl, fun h => absurd (HX.out.symm.trans h) (by decide), fun _ => rfl, hk⟩
end Go.Proofs.YtkckkjpkidcbnaaGreatDoor
