/- Rows of clauses in memory: those that are handed in, and those that the call itself lays, each apart from the others. -/
import Derived.Test.YtbblgmkjgcjcaabCnfSpec
namespace Go.Proofs.Ytbblgmkjgcjcaab
open Go.RowKit

/-- The value leads to a row of these clauses, in blocks of S. -/
def ClsIs (S : Nat → Prop) (w : World) (F : List (List Int)) (v : Value) : Prop :=
  (F = [] ∧ ∃ p cap, v = .slice p 0 cap) ∨ ∃ (b off cap : Nat), v = .slice (some ⟨b, off, none⟩) F.length cap ∧ (S b ∧ F.length ≤ cap) ∧ F.length ≤ 9223372036854775807 ∧
    ∀ (j : Nat) (c : List Int), F[j]? = some c → ∃ cv : Value, w.cell? ⟨b, off + j, none⟩ = some cv ∧ NumsIs S w c cv
theorem ClsIs.mono {S S' : Nat → Prop} {w w' : World} (hw : ∀ p : Addr, S p.block → w'.cell? p = w.cell? p) (hS : ∀ b, S b → S' b) {F : List (List Int)} {v : Value} (h : ClsIs S w F v) : ClsIs S' w' F v := by
  rcases h with h | ⟨b, off, cap, h1, h2, h3, h4⟩
  · exact Or.inl h
  · refine Or.inr ⟨b, off, cap, h1, ⟨hS _ h2.1, h2.2⟩, h3, fun j c hc => ?_⟩
    obtain ⟨cv, h5, h6⟩ := h4 j c hc
    exact ⟨cv, (hw ⟨b, off + j, none⟩ h2.1).trans h5, h6.mono hw hS⟩
theorem ClsIs.keep {S : Nat → Prop} {B : Nat} {w w' : World} (hS : ∀ b, S b → b < B) (k : Below B w w') {F : List (List Int)} {v : Value} (h : ClsIs S w F v) : ClsIs S w' F v := h.mono (below_cells hS k) fun _ h => h
theorem ClsIs.len {S : Nat → Prop} {w : World} {F : List (List Int)} {v : Value} (h : ClsIs S w F v) : ∃ p cap, v = .slice p F.length cap ∧ F.length ≤ 9223372036854775807 := by
  rcases h with ⟨rfl, p, cap, rfl⟩ | ⟨b, off, cap, rfl, -, h, -⟩
  · exact ⟨p, cap, rfl, by simp⟩
  · exact ⟨_, cap, rfl, h⟩
theorem NumsIs.shape {S : Nat → Prop} {w : World} {zs : List Int} {v : Value} (h : NumsIs S w zs v) : ∃ p cap, v = .slice p zs.length cap ∧ zs.length ≤ 9223372036854775807 := by
  obtain ⟨p, cap, h1, h2, -⟩ := h
  exact ⟨p, cap, h1, h2⟩
theorem ClsIs.get {S : Nat → Prop} {w : World} {F : List (List Int)} {v : Value} (h : ClsIs S w F v) {k : Nat} (hk : k < F.length) : ∃ b off cap cp cc, v = .slice (some ⟨b, off, none⟩) F.length cap ∧ S b ∧ F.length ≤ 9223372036854775807 ∧
    w.cell? ⟨b, off + k, none⟩ = some (.slice cp F[k].length cc) ∧ NumsIs S w F[k] (.slice cp F[k].length cc) ∧ F[k].length ≤ 9223372036854775807 := by
  rcases h with ⟨rfl, -⟩ | ⟨b, off, cap, rfl, h2, h3, h4⟩
  · simp at hk
  · obtain ⟨cv, h5, h6⟩ := h4 k _ (List.getElem?_eq_getElem hk)
    obtain ⟨cp, cc, rfl, h7⟩ := h6.shape
    exact ⟨b, off, cap, cp, cc, rfl, h2.1, h3, h5, h6, h7⟩

/-- A row of clauses of the call's own; what they lead to lies in blocks of S. -/
def CRow (B : Nat) (S : Nat → Prop) (v : Value) (cs : List (List Int)) (w : World) : Prop :=
  ∃ vs : List Value, vs.length = cs.length ∧ w.ownsRow B 38 1 v cs.length vs ∧ ∀ (i : Nat) c x, cs[i]? = some c → vs[i]? = some x → NumsIs S w c x
theorem CRow.nil (B : Nat) (S : Nat → Prop) (w : World) : CRow B S (.slice none 0 0) [] w := ⟨[], rfl, World.ownsRow_nil _ _ _ _, by simp⟩
theorem CRow.mono {B : Nat} {S S' : Nat → Prop} {v : Value} {cs : List (List Int)} {w w' : World} (h : CRow B S v cs w) (hv : ∀ g, v.ownBlock = some g → w'.heap[g]? = w.heap[g]?) (hS : ∀ b, S b → w'.heap[b]? = w.heap[b]? ∧ S' b) : CRow B S' v cs w' := by
  obtain ⟨vs, h1, h2, h3⟩ := h
  exact ⟨vs, h1, owns_other h2 hv, fun i c x hi hx => (h3 i c x hi hx).mono (fun p hp => World.cell?_of_block (w := w) (hS _ hp).1) (fun b hb => (hS b hb).2)⟩
theorem CRow.in {B : Nat} {S : Nat → Prop} {v : Value} {cs : List (List Int)} {w : World} (h : CRow B S v cs w) {g : Nat} (hg : v.ownBlock = some g) : B ≤ g ∧ g < w.heap.size := by
  obtain ⟨vs, h1, h2, h3⟩ := h; exact owns_in h2 hg
theorem CRow.cls {B : Nat} {S : Nat → Prop} {v : Value} {cs : List (List Int)} {w : World} (h : CRow B S v cs w) : ClsIs (fun b => S b ∨ v.ownBlock = some b) w cs v := by
  obtain ⟨vs, h1, ⟨h2, ⟨rfl, h0⟩ | ⟨g, cap, cur, rfl, e2, e3, e4, e5, e6, e7⟩⟩, h3⟩ := h
  · exact Or.inl ⟨List.length_eq_zero_iff.1 h0, none, 0, rfl⟩
  · refine Or.inr ⟨g, 0, cap, rfl, ⟨Or.inr rfl, e4⟩, by unfold maxLen at e5; omega, fun j c hc => ?_⟩
    have hj : j < cs.length := (List.getElem?_eq_some_iff.1 hc).1
    refine ⟨vs[j], ?_, (h3 j c _ hc (List.getElem?_eq_getElem (by omega))).mono (fun _ _ => rfl) fun b hb => Or.inl hb⟩
    have hf : ∃ x, x = vs[j] ∧ vs[j]? = some x := ⟨_, rfl, List.getElem?_eq_getElem (by omega)⟩
    obtain ⟨x, hx, hf⟩ := hf
    rw [← hx]
    clear hx
    rw [← e7, List.getElem?_take, if_pos (by omega)] at hf
    simp only [World.cell?, e3, Nat.zero_add]
    simpa using hf
theorem CRow.shape {B : Nat} {S : Nat → Prop} {v : Value} {cs : List (List Int)} {w : World} (h : CRow B S v cs w) : ∃ p cap, v = .slice p cs.length cap := by
  obtain ⟨p, cap, h, -⟩ := h.cls.len; exact ⟨p, cap, h⟩

/-- Rows of clauses of the call's own, each apart from the others. -/
structure Tab (B : Nat) (S : Nat → Prop) (vs : List Value) (R : List (List (List Int))) (w : World) : Prop where
  len : vs.length = R.length
  row : ∀ (i : Nat) v r, vs[i]? = some v → R[i]? = some r → CRow B S v r w
  dis : ∀ (i j : Nat) a b g, i ≠ j → vs[i]? = some a → vs[j]? = some b → a.ownBlock = some g → b.ownBlock ≠ some g
theorem Tab.other {B : Nat} {S : Nat → Prop} {vs : List Value} {R : List (List (List Int))} {w w' : World} (h : Tab B S vs R w) (hS : ∀ b, S b → w'.heap[b]? = w.heap[b]?) (hb : ∀ b, B ≤ b → b < w.heap.size → w'.heap[b]? = w.heap[b]?) : Tab B S vs R w' := by
  refine ⟨h.len, fun i v r hv hr => ?_, h.dis⟩
  have hw := h.row i v r hv hr
  exact hw.mono (fun g hg => by have := hw.in hg; exact hb g this.1 this.2) fun b hd => ⟨hS b hd, hd⟩
theorem Tab.keep {B : Nat} {S : Nat → Prop} {vs : List Value} {R : List (List (List Int))} {w w' : World} (h : Tab B S vs R w) (hS : ∀ b, S b → b < w.heap.size) (k : Keep w w') : Tab B S vs R w' := h.other (fun b hb => k.block b (hS b hb)) fun b _ hb => k.block b hb
theorem Tab.none (B : Nat) (S : Nat → Prop) (n : Nat) (w : World) : Tab B S (List.replicate n (.slice none 0 0)) (List.replicate n []) w := by
  refine ⟨by simp, fun i v r hv hr => ?_, fun i j a b g _ ha _ hag => ?_⟩
  · have h1 := List.eq_of_mem_replicate (List.mem_of_getElem? hv)
    have h2 := List.eq_of_mem_replicate (List.mem_of_getElem? hr)
    subst h1 h2
    exact CRow.nil _ _ _
  · have h1 := List.eq_of_mem_replicate (List.mem_of_getElem? ha)
    subst h1; cases hag
/-- A clause is put behind one of the rows. -/
theorem Tab.push {B : Nat} {S : Nat → Prop} {vs : List Value} {R : List (List (List Int))} {w w' : World} {i : Nat} {v v' x : Value} {r : List (List Int)} {xs : List Value} {c : List Int} (h : Tab B S vs R w) (hv : vs[i]? = some v) (hr : R[i]? = some r)
    (hxs : xs.length = r.length ∧ ∀ (i : Nat) c x, r[i]? = some c → xs[i]? = some x → NumsIs S w c x) (hx : NumsIs S w c x)
    (hS : ∀ b, S b → w'.heap[b]? = w.heap[b]?) (hb : ∀ b, B ≤ b → b < w.heap.size → v.ownBlock ≠ some b → w'.heap[b]? = w.heap[b]?)
    (ho : v'.ownBlock = v.ownBlock ∨ ∃ g, v'.ownBlock = some g ∧ w.heap.size ≤ g) (h5 : w'.ownsRow B 38 1 v' (r.length + 1) (xs ++ [x])) : Tab B S (vs.set i v') (R.set i (r ++ [c])) w' := by
  have hiv : i < vs.length := (List.getElem?_eq_some_iff.1 hv).1
  have hir : i < R.length := (List.getElem?_eq_some_iff.1 hr).1
  have mn : ∀ c x, NumsIs S w c x → NumsIs S w' c x := fun c x h => h.mono (fun p hp => World.cell?_of_block (w := w) (hS _ hp)) (fun b hb => hb)
  refine ⟨by simp [h.len], fun j a q ha hq => ?_, fun j k a b g hjk ha hbb hag => ?_⟩
  · by_cases hj : i = j
    · subst hj
      rw [List.getElem?_set_self hiv] at ha
      rw [List.getElem?_set_self hir] at hq
      cases ha; cases hq
      refine ⟨xs ++ [x], by simp [hxs.1], by simpa using h5, fun m d y hd hy => ?_⟩
      by_cases hm : m < r.length
      · rw [List.getElem?_append_left hm] at hd
        rw [List.getElem?_append_left (by omega)] at hy
        exact mn _ _ (hxs.2 m d y hd hy)
      · have hm2 : m = r.length := by
          have := (List.getElem?_eq_some_iff.1 hd).1
          simp at this; omega
        subst hm2
        rw [List.getElem?_append_right (Nat.le_refl _), Nat.sub_self] at hd
        rw [← hxs.1, List.getElem?_append_right (Nat.le_refl _), Nat.sub_self] at hy
        cases hd; cases hy
        exact mn _ _ hx
    · rw [List.getElem?_set_ne hj] at ha hq
      have hw := h.row j a q ha hq
      refine hw.mono (fun g hg => ?_) fun b hd => ⟨hS b hd, hd⟩
      have := hw.in hg
      exact hb g this.1 this.2 (fun e => h.dis j i a v g (Ne.symm hj) ha hv hg e)
  · have key : ∀ (j : Nat) (a : Value), i ≠ j → vs[j]? = some a → ∀ g, a.ownBlock = some g → v'.ownBlock ≠ some g := by
      intro j a hj ha g hg e
      have hq : R[j]? = some R[j]! := by
        have : j < R.length := by rw [← h.len]; exact (List.getElem?_eq_some_iff.1 ha).1
        simp [this]
      have hin := (h.row j a _ ha hq).in hg
      rcases ho with ho | ⟨g', ho, hge⟩
      · exact h.dis j i a v g (Ne.symm hj) ha hv hg (by rw [← ho]; exact e)
      · rw [ho] at e; have := Option.some.inj e; omega
    by_cases hj : i = j
    · subst hj
      rw [List.getElem?_set_self hiv] at ha
      cases ha
      rw [List.getElem?_set_ne hjk] at hbb
      intro e
      exact key k b hjk hbb g e hag
    · rw [List.getElem?_set_ne hj] at ha
      by_cases hk : i = k
      · subst hk
        rw [List.getElem?_set_self hiv] at hbb
        cases hbb
        exact key j a hj ha g hag
      · rw [List.getElem?_set_ne hk] at hbb
        exact h.dis j k a b g hjk ha hbb hag
end Go.Proofs.Ytbblgmkjgcjcaab
