/- A package's own block, written whole; rows of words that lie in a block. -/
import Derived.Test.YtnagpmilagdjeaaGreatDoorTreeMeant
namespace Go.Proofs.YtnagpmilagdjeaaGreatDoor
open Go.RowKit

def PBox (b : Nat) (cs : Array Value) (w : World) : Prop := w.heap[b]? = some (.cells cs 58 (0, 0))
theorem PBox.facts {b : Nat} {cs : Array Value} {w : World} (h : PBox b cs w) : (∀ o, w.cell? ⟨b, o, none⟩ = cs[o]?) ∧ (∀ o, w.frozen? ⟨b, o, none⟩ = false) ∧ b < w.heap.size := by
  unfold PBox at h
  refine ⟨fun o => by simp [World.cell?, h], fun o => by simp [World.frozen?, h], (Array.getElem?_eq_some_iff.1 h).1⟩
theorem PBox.new (w : World) (cs : Array Value) : PBox w.heap.size cs (w.alloc (.cells cs 58)) := by
  show (w.heap.push _)[w.heap.size]? = _
  rw [Array.getElem?_push, if_pos rfl]
theorem PBox.keep {b B : Nat} {cs : Array Value} {w w' : World} (h : PBox b cs w) (k : Below B w w') (hB : b < B) : PBox b cs w' := by
  unfold PBox at h ⊢; rw [k.block b hB]; exact h
theorem array14 {α : Type} {cs : Array α} (h : cs.size = 14) : ∃ c0 c1 c2 c3 c4 c5 c6 c7 c8 c9 c10 c11 c12 c13, cs = #[c0, c1, c2, c3, c4, c5, c6, c7, c8, c9, c10, c11, c12, c13] := by
  obtain ⟨l⟩ := cs
  match l, h with
  | [c0, c1, c2, c3, c4, c5, c6, c7, c8, c9, c10, c11, c12, c13], _ => exact ⟨c0, c1, c2, c3, c4, c5, c6, c7, c8, c9, c10, c11, c12, c13, rfl⟩
theorem PBox.set {b : Nat} {cs : Array Value} {w : World} (h : PBox b cs w) (hs : cs.size = 14) (v0 v1 v2 v3 v4 v5 v6 v7 v8 v9 v10 v11 v12 v13 : Value) :
    PBox b #[v0, v1, v2, v3, v4, v5, v6, v7, v8, v9, v10, v11, v12, v13] ((((((((((((((w.setCell ⟨b, 0, none⟩ v0).setCell ⟨b, 1, none⟩ v1).setCell ⟨b, 2, none⟩ v2).setCell ⟨b, 3, none⟩ v3).setCell ⟨b, 4, none⟩ v4).setCell ⟨b, 5, none⟩ v5).setCell ⟨b, 6, none⟩ v6).setCell ⟨b, 7, none⟩ v7).setCell ⟨b, 8, none⟩ v8).setCell ⟨b, 9, none⟩ v9).setCell ⟨b, 10, none⟩ v10).setCell ⟨b, 11, none⟩ v11).setCell ⟨b, 12, none⟩ v12).setCell ⟨b, 13, none⟩ v13) ∧ Below b w ((((((((((((((w.setCell ⟨b, 0, none⟩ v0).setCell ⟨b, 1, none⟩ v1).setCell ⟨b, 2, none⟩ v2).setCell ⟨b, 3, none⟩ v3).setCell ⟨b, 4, none⟩ v4).setCell ⟨b, 5, none⟩ v5).setCell ⟨b, 6, none⟩ v6).setCell ⟨b, 7, none⟩ v7).setCell ⟨b, 8, none⟩ v8).setCell ⟨b, 9, none⟩ v9).setCell ⟨b, 10, none⟩ v10).setCell ⟨b, 11, none⟩ v11).setCell ⟨b, 12, none⟩ v12).setCell ⟨b, 13, none⟩ v13) ∧ ((((((((((((((w.setCell ⟨b, 0, none⟩ v0).setCell ⟨b, 1, none⟩ v1).setCell ⟨b, 2, none⟩ v2).setCell ⟨b, 3, none⟩ v3).setCell ⟨b, 4, none⟩ v4).setCell ⟨b, 5, none⟩ v5).setCell ⟨b, 6, none⟩ v6).setCell ⟨b, 7, none⟩ v7).setCell ⟨b, 8, none⟩ v8).setCell ⟨b, 9, none⟩ v9).setCell ⟨b, 10, none⟩ v10).setCell ⟨b, 11, none⟩ v11).setCell ⟨b, 12, none⟩ v12).setCell ⟨b, 13, none⟩ v13).heap.size = w.heap.size ∧ ∀ k, k ≠ b → ((((((((((((((w.setCell ⟨b, 0, none⟩ v0).setCell ⟨b, 1, none⟩ v1).setCell ⟨b, 2, none⟩ v2).setCell ⟨b, 3, none⟩ v3).setCell ⟨b, 4, none⟩ v4).setCell ⟨b, 5, none⟩ v5).setCell ⟨b, 6, none⟩ v6).setCell ⟨b, 7, none⟩ v7).setCell ⟨b, 8, none⟩ v8).setCell ⟨b, 9, none⟩ v9).setCell ⟨b, 10, none⟩ v10).setCell ⟨b, 11, none⟩ v11).setCell ⟨b, 12, none⟩ v12).setCell ⟨b, 13, none⟩ v13).heap[k]? = w.heap[k]? := by
  obtain ⟨c0, c1, c2, c3, c4, c5, c6, c7, c8, c9, c10, c11, c12, c13, rfl⟩ := array14 hs
  refine ⟨?_, ?_, ?_, ?_⟩
  · have h10 := heap_set (heap_set (heap_set (heap_set (heap_set (heap_set (heap_set (heap_set (heap_set (heap_set (heap_set (heap_set (heap_set (heap_set (h) 0 v0) 1 v1) 2 v2) 3 v3) 4 v4) 5 v5) 6 v6) 7 v7) 8 v8) 9 v9) 10 v10) 11 v11) 12 v12) 13 v13
    simp only [List.setIfInBounds_toArray, List.set_cons_zero, List.set_cons_succ] at h10
    exact h10
  · exact (((((((((((((((Below.refl b w).setCell (p := ⟨b, 0, none⟩) (Nat.le_refl _) v0).setCell (p := ⟨b, 1, none⟩) (Nat.le_refl _) v1).setCell (p := ⟨b, 2, none⟩) (Nat.le_refl _) v2).setCell (p := ⟨b, 3, none⟩) (Nat.le_refl _) v3).setCell (p := ⟨b, 4, none⟩) (Nat.le_refl _) v4).setCell (p := ⟨b, 5, none⟩) (Nat.le_refl _) v5).setCell (p := ⟨b, 6, none⟩) (Nat.le_refl _) v6).setCell (p := ⟨b, 7, none⟩) (Nat.le_refl _) v7).setCell (p := ⟨b, 8, none⟩) (Nat.le_refl _) v8).setCell (p := ⟨b, 9, none⟩) (Nat.le_refl _) v9).setCell (p := ⟨b, 10, none⟩) (Nat.le_refl _) v10).setCell (p := ⟨b, 11, none⟩) (Nat.le_refl _) v11).setCell (p := ⟨b, 12, none⟩) (Nat.le_refl _) v12).setCell (p := ⟨b, 13, none⟩) (Nat.le_refl _) v13)
  · simp [World.setCell]
  · intro k hk
    simp [World.setCell, Array.getElem?_modify, Ne.symm hk]
theorem at_ret {P : Program} {fn : Func} {R : Ending → World → Prop} {a : Act} {W : World} {v : Value} (T : World → Prop) (hT : T W) (hd : a.defers = []) (h : ∀ W', T W' → (results fn a.tmps).run P W' = .ok v W' ∧ R (.returned v) W') : bodyPost P fn R .ret a W :=
  bodyPost_ret (h W hT).1 hd (h W hT).2
def zeroP : List Value := [.string ⟨#[]⟩, .int .i64 0, .int .i64 0, .slice none 0 0, .int .i64 0, .string ⟨#[]⟩, .int .i64 0, .int .i64 0, .int .i64 0, .string ⟨#[]⟩, .bool false, .string ⟨#[]⟩, .bool false, .slice none 0 0]
theorem words5 {l : List Word} (h : l.length ≠ 5) : wordsE l = 1 := by
  match l, h with
  | [], _ => rfl
  | [_], _ => rfl
  | [_, _], _ => rfl
  | [_, _, _], _ => rfl
  | [_, _, _, _], _ => rfl
  | [_, _, _, _, _], h => exact absurd rfl h
  | _ :: _ :: _ :: _ :: _ :: _ :: _, _ => rfl
theorem splitK_many (sep : List UInt8) : ∀ (k : Nat) (l : List UInt8), (Lib.splitK sep 0 k l).length ≤ k + 1
  | 0, _ => by simp [Lib.splitK]
  | k + 1, l => by
    rw [Lib.splitK]
    split
    · simp
    · have := splitK_many sep k (l.drop ((Lib.index l sep).toNat + sep.length))
      simp only [List.length_cons]; omega
/-- The words of a line. -/
theorem line_words (s : ByteArray) : ∃ ws : List ByteArray, ws = Lib.splitB ⟨#[32]⟩ 0 (min 5 (s.size + 1) - 1) s ∧ ws.length ≤ min 5 (s.size + 1) ∧ ws.map (·.data.toList) = Lib.splitN s.data.toList [32] 5 ∧ ∀ x ∈ ws, x.size ≤ s.size := by
  have hsz : s.data.toList.length = s.size := size_list s
  have hd : (Lib.splitB ⟨#[32]⟩ 0 (min 5 (s.size + 1) - 1) s).map (·.data.toList) = Lib.splitN s.data.toList [32] 5 := by
    unfold Lib.splitN; rw [hsz]; exact Lib.splitB_data ⟨#[32]⟩ 0 _ s
  refine ⟨_, rfl, ?_, hd, fun x hx => ?_⟩
  · have := splitK_many [32] (min 5 (s.size + 1) - 1) s.data.toList
    have e := congrArg List.length hd
    rw [List.length_map] at e
    unfold Lib.splitN at e
    rw [hsz] at e
    omega
  · have : x.data.toList ∈ Lib.splitN s.data.toList [32] 5 := by rw [← hd]; exact List.mem_map.2 ⟨x, hx, rfl⟩
    have h2 := splitK_len _ _ _ this
    rw [size_list, size_list] at h2
    exact h2
theorem cellsOf_get {ws : List ByteArray} {m j : Nat} {x : ByteArray} (h : ws[j]? = some x) : (Lib.cellsOf ws m)[j]? = some (.string x) := by
  have hj := (List.getElem?_eq_some_iff.1 h).1
  unfold Lib.cellsOf
  rw [List.getElem?_toArray, List.getElem?_append_left (by simpa using hj), List.getElem?_map, h]; rfl

set_option maxHeartbeats 2000000 in
theorem readFlags_any (s : ByteArray) (w : World) (hM : MaxAt w) (hs : s.size ≤ 20000) :
    Calls Tryz.prog 121 #[.string s] w fun e w' => ∃ v, e = .returned v ∧ StrsIs (fun b => w.heap.size ≤ b ∧ b < w'.heap.size) w' (flagsW s.data.toList) v ∧ Keep w w' := by
  rcases word_is s [] with ⟨h1, h2, h3⟩ | ⟨h1, h2, h3⟩
  · have HF : Hid (flagsW s.data.toList = []) := by show _ = _; unfold flagsW; rw [if_pos h1]
    clear h1
    go_enter Tryz.func121, Tryz.ntmps121
    go_wp2_with fail
    go_ret
    exact ⟨_, rfl, Or.inl ⟨HF.out, none, 0, rfl⟩, Keep.refl _⟩
  · have HF : Hid (flagsW s.data.toList = (Lib.split s.data.toList [44]).map fun x => ⟨x.toArray⟩) := by show _ = _; unfold flagsW; rw [if_neg h1]
    obtain ⟨hml, mm, hmm⟩ := hM
    have hl := Lib.splitB_all ⟨#[44]⟩ (by decide) 0 _ s rfl
    have hc := Lib.countB_le ⟨#[44]⟩ (by decide) s.size s (Nat.le_refl _)
    have hd : (Lib.splitB ⟨#[44]⟩ 0 (Lib.countB s ⟨#[44]⟩) s).map (·.data.toList) = Lib.split s.data.toList [44] := Lib.splitB_data ⟨#[44]⟩ 0 _ s
    have HFS : Hid (flagsW s.data.toList = Lib.splitB ⟨#[44]⟩ 0 (Lib.countB s ⟨#[44]⟩) s) := by
      show _ = _
      rw [HF.out, ← hd, List.map_map]
      conv => rhs; rw [← List.map_id (Lib.splitB ⟨#[44]⟩ 0 (Lib.countB s ⟨#[44]⟩) s)]
      apply List.map_congr_left
      intro x _; exact bytes_back x
    have HL := hid hl
    have HC := hid hc
    clear h1 hd hl hc HF
    go_enter Tryz.func121, Tryz.ntmps121
    go_wp2_with fail
    refine (Tryz.strings_Split s ⟨#[44]⟩ mm w (by omega) hmm (by decide)).mono ?_
    rintro e w1 ⟨rfl, hw1⟩
    have K1 : Hid (Keep w w1) := by rw [hw1]; exact Keep.alloc _ _
    have HS1 : Hid (w1.heap.size = w.heap.size + 1) := by show _ = _; rw [hw1, alloc_size]
    have HC1 : Hid (∀ (j : Nat) (x : ByteArray), (Lib.splitB ⟨#[44]⟩ 0 (Lib.countB s ⟨#[44]⟩) s)[j]? = some x → w1.cell? ⟨w.heap.size, 0 + j, none⟩ = some (.string x)) := by
      intro j x hx
      rw [hw1]
      have := many_news (w := w) (cs := (Lib.splitB ⟨#[44]⟩ 0 (Lib.countB s ⟨#[44]⟩) s).map Value.string) (T := 9) j (.string x) (by simp [hx])
      rwa [Addr.add_mid] at this
    clear hw1 hmm
    go_wp2_with fail
    go_ret
    refine ⟨_, rfl, Or.inr ⟨w.heap.size, 0, Lib.countB s ⟨#[44]⟩ + 1, ?_, ⟨⟨Nat.le_refl _, by rw [HS1.out]; omega⟩, by rw [HFS.out, HL.out]; exact Nat.le_refl _⟩, ?_, ?_⟩, K1.out⟩
    · rw [HFS.out, HL.out]; rfl
    · rw [HFS.out, HL.out]; have := HC.out; omega
    · rw [HFS.out]; exact HC1.out
end Go.Proofs.YtnagpmilagdjeaaGreatDoor
