/- The search in memory: its struct, the table of clauses, the proof so far. -/
import Derived.Test.YtbblgmkjgcjcaabSatKnown
namespace Go.Proofs.Ytbblgmkjgcjcaab
open Go.RowKit Go.Lib

theorem XF.other {x : XD} {B : Nat} {K : List Int} {F : List (List Int)} {w w' : World} (h : XF x B K F w) (hs : w.heap.size ≤ w'.heap.size) (hb : ∀ b, x.all b → w'.heap[b]? = w.heap[b]?) : XF x B K F w' := by
  refine ⟨h.xm.other hs fun b hb' => hb b (.inl hb'), ?_, h.xi, h.cl⟩
  have := h.kb
  unfold BoxAt at *
  rw [hb _ (.inr rfl)]; exact this
/-- The search: its table, its block, the steps that are left, the model, the proof. -/
structure SD where
  x : XD
  sb : Nat
  s : Nat
  mv : Value
  pv : Value
  P : List (List Int)
def SD.own (d : SD) (b : Nat) : Prop := d.x.all b ∨ b = d.sb ∨ d.pv.ownBlock = some b
def SD.box (d : SD) : Array Value := #[.int .i64 d.x.n, .pointer (some ⟨d.x.bx, 0, none⟩), .int .i64 d.s, d.mv, d.pv]
def SD.far (d : SD) (N : Nat) (w : World) (b : Nat) : Prop := N ≤ b ∧ b < w.heap.size ∧ ¬ d.own b
structure SrM (d : SD) (B N : Nat) (K : List Int) (F : List (List Int)) (w : World) : Prop where
  box : BoxAt d.sb 80 d.box w
  xf : XF d.x B K F w
  sx : ¬ d.x.all d.sb
  pr : CRow N (d.far N w) d.pv d.P w
  px : ∀ g, d.pv.ownBlock = some g → ¬ d.x.all g ∧ g ≠ d.sb
  nw : N ≤ w.heap.size
theorem SrM.lt {d : SD} {B N : Nat} {K : List Int} {F : List (List Int)} {w : World} (h : SrM d B N K F w) {b : Nat} (hb : d.own b) : b < w.heap.size := by
  rcases hb with hb | rfl | hb
  · exact h.xf.lt hb
  · exact h.box.facts.2.2
  · exact (h.pr.in hb).2
theorem SrM.keep {d : SD} {B N : Nat} {K : List Int} {F : List (List Int)} {w w' : World} (h : SrM d B N K F w) (k : Keep w w') : SrM d B N K F w' :=
  ⟨h.box.keep k h.box.facts.2.2, h.xf.keep k, h.sx, h.pr.mono (fun g hg => k.block g (h.pr.in hg).2) (fun b hb => ⟨k.block b hb.2.1, hb.1, Nat.lt_of_lt_of_le hb.2.1 k.size, hb.2.2⟩), h.px, Nat.le_trans h.nw k.size⟩
/-- What follows was asked. -/
theorem SrM.from {d : SD} {B N : Nat} {K K' : List Int} {F F' : List (List Int)} {w w' : World} {x' : XD} (h : SrM d B N K F w) (hx : XF x' B K' F' w') (ht : Turn d.x.all x'.all w w') (hn : x'.n = d.x.n) (hb : x'.bx = d.x.bx) : SrM { d with x := x' } B N K' F' w' ∧ Turn d.own ({ d with x := x' } : SD).own w w' := by
  have hsl := h.box.facts.2.2
  have hne : ∀ b, b < w.heap.size → ¬ d.x.all b → ¬ x'.all b := fun b hb hn e => (ht.new b e).elim hn fun e => by omega
  refine ⟨⟨?_, hx, hne _ hsl h.sx, ?_, fun g hg => ⟨hne g (h.pr.in hg).2 (h.px g hg).1, (h.px g hg).2⟩, Nat.le_trans h.nw ht.size⟩, ?_⟩
  · have := h.box.turn ht h.sx
    show BoxAt d.sb _ #[.int .i64 x'.n, .pointer (some ⟨x'.bx, 0, none⟩), .int .i64 d.s, d.mv, d.pv] w'
    rw [hn, hb]; exact this
  · exact h.pr.mono (fun g hg => ht.block g (h.pr.in hg).2 (h.px g hg).1) fun b hb => ⟨ht.block b hb.2.1 fun e => hb.2.2 (.inl e), hb.1, Nat.lt_of_lt_of_le hb.2.1 ht.size, fun e => by
      rcases e with e | e | e
      · exact hne b hb.2.1 (fun e => hb.2.2 (.inl e)) e
      · exact hb.2.2 (.inr (.inl e))
      · exact hb.2.2 (.inr (.inr e))⟩
  · refine ⟨ht.os, ht.tape, ht.output, ht.size, fun b hb hn => ht.block b hb fun e => hn (.inl e), fun b hb => ?_⟩
    rcases hb with hb | hb | hb
    · exact (ht.new b hb).imp .inl id
    · exact .inl (.inr (.inl hb))
    · exact .inl (.inr (.inr hb))
/-- A field is set. -/
theorem SrM.put {d d' : SD} {B N : Nat} {K : List Int} {F : List (List Int)} {w : World} (h : SrM d B N K F w) (o : Nat) (v : Value) (e : d.box.setIfInBounds o v = d'.box) (hx : d'.x = d.x) (hs : d'.sb = d.sb) (hp : d'.pv = d.pv) (hP : d'.P = d.P) : SrM d' B N K F (w.setCell ⟨d.sb, o, none⟩ v) ∧ Turn d.own d'.own w (w.setCell ⟨d.sb, o, none⟩ v) := by
  have hso : ∀ b, b ≠ d.sb → (w.setCell ⟨d.sb, o, none⟩ v).heap[b]? = w.heap[b]? := fun b hb => Below.heap_setCell _ _ _ _ (fun e => hb e)
  have hsz : (w.setCell ⟨d.sb, o, none⟩ v).heap.size = w.heap.size := by simp
  have hown : d'.own = d.own := by unfold SD.own; rw [hx, hs, hp]
  refine ⟨⟨by rw [hs, ← e]; exact h.box.set o v, by rw [hx]; exact h.xf.other (by rw [hsz]; exact Nat.le_refl _) fun b hb => hso b fun e => h.sx (e ▸ hb), by rw [hx, hs]; exact h.sx, ?_, by rw [hx, hs, hp]; exact h.px, by rw [hsz]; exact h.nw⟩, by rw [hown]; exact Turn.set _ _ _ _ _ (.inr (.inl rfl))⟩
  rw [hp, hP]
  exact h.pr.mono (fun g hg => hso g (h.px g hg).2) fun b hb => ⟨hso b fun e => hb.2.2 (.inr (.inl e)), hb.1, by rw [hsz]; exact hb.2.1, by rw [hown]; exact hb.2.2⟩
/-- One more clause of the proof. -/
theorem SrM.push {d : SD} {B N : Nat} {K : List Int} {F : List (List Int)} {w w5 : World} (h : SrM d B N K F w) {vs : List Value} {u v' : Value} {c : List Int} (hvl : vs.length = d.P.length) (hvn : ∀ (i : Nat) c x, d.P[i]? = some c → vs[i]? = some x → NumsIs (d.far N w) w c x)
    (hu : NumsIs (d.far N w) w c u) (hg : w.grownBy w5 d.pv.ownBlock) (ho : v'.ownBlock = d.pv.ownBlock ∨ ∃ g, v'.ownBlock = some g ∧ w.heap.size ≤ g) (h5 : w5.ownsRow N 38 1 v' (d.P.length + 1) (vs ++ [u])) :
    SrM { d with pv := v', P := d.P ++ [c] } B N K F (w5.setCell ⟨d.sb, 4, none⟩ v') ∧ Turn d.own ({ d with pv := v', P := d.P ++ [c] } : SD).own w (w5.setCell ⟨d.sb, 4, none⟩ v') := by
  have hsl := h.box.facts.2.2
  have hb : ∀ b, b < w.heap.size → d.pv.ownBlock ≠ some b → w5.heap[b]? = w.heap[b]? := fun b hb hn => hg.block b hb fun e => hn e.symm
  have hso : ∀ b, b ≠ d.sb → (w5.setCell ⟨d.sb, 4, none⟩ v').heap[b]? = w5.heap[b]? := fun b hb => Below.heap_setCell _ _ _ _ (fun e => hb e)
  have hsz : (w5.setCell ⟨d.sb, 4, none⟩ v').heap.size = w5.heap.size := by simp
  have hown : ∀ b, ({ d with pv := v', P := d.P ++ [c] } : SD).own b → d.own b ∨ w.heap.size ≤ b := fun b e => by
    rcases e with e | e | e
    · exact .inl (.inl e)
    · exact .inl (.inr (.inl e))
    · rcases ho with ho | ⟨g, ho, hge⟩
      · exact .inl (.inr (.inr (ho ▸ e)))
      · have e2 : v'.ownBlock = some b := e
        rw [ho] at e2; have := Option.some.inj e2; exact .inr (by omega)
  have hfar : ∀ b, d.far N w b → (w5.setCell ⟨d.sb, 4, none⟩ v').heap[b]? = w.heap[b]? ∧ ({ d with pv := v', P := d.P ++ [c] } : SD).far N (w5.setCell ⟨d.sb, 4, none⟩ v') b := fun b hf => by
    refine ⟨?_, hf.1, ?_, fun e => ?_⟩
    · rw [hso b fun e => hf.2.2 (.inr (.inl e)), hb b hf.2.1 fun e => hf.2.2 (.inr (.inr e))]
    · rw [hsz]; exact Nat.lt_of_lt_of_le hf.2.1 hg.size
    · rcases hown b e with e | e
      · exact hf.2.2 e
      · have := hf.2.1; omega
  have hpx : ∀ g, v'.ownBlock = some g → ¬ d.x.all g ∧ g ≠ d.sb := fun g hgv => by
    rcases ho with ho | ⟨g', ho, hge⟩
    · exact h.px g (ho ▸ hgv)
    · rw [ho] at hgv
      have e := Option.some.inj hgv
      exact ⟨fun e2 => by have := h.xf.lt e2; omega, by omega⟩
  have hmn : ∀ c x, NumsIs (d.far N w) w c x → NumsIs (({ d with pv := v', P := d.P ++ [c] } : SD).far N (w5.setCell ⟨d.sb, 4, none⟩ v')) (w5.setCell ⟨d.sb, 4, none⟩ v') c x := fun c x hx => hx.mono (fun p hp => World.cell?_of_block (w := w) (hfar _ hp).1) fun b hb => (hfar b hb).2
  refine ⟨⟨?_, ?_, h.sx, ?_, hpx, by rw [hsz]; exact Nat.le_trans h.nw hg.size⟩, ?_⟩
  · have h6 : BoxAt d.sb 80 d.box w5 := by
      have := h.box
      unfold BoxAt at *
      rw [hb _ hsl fun e => (h.px _ e).2 rfl]; exact this
    exact h6.set 4 v'
  · refine h.xf.other (by rw [hsz]; exact hg.size) fun b hb' => ?_
    rw [hso b fun e => h.sx (e ▸ hb'), hb b (h.xf.lt hb') fun e => (h.px b e).1 hb']
  · refine ⟨vs ++ [u], by simp [hvl], ?_, fun i c' x hc' hx => ?_⟩
    · have h6 := owns_other (w' := w5.setCell ⟨d.sb, 4, none⟩ v') h5 fun g hgv => hso g (hpx g hgv).2
      simpa using h6
    · have hc'' : (d.P ++ [c])[i]? = some c' := hc'
      by_cases hi : i < d.P.length
      · rw [List.getElem?_append_left hi] at hc''
        rw [List.getElem?_append_left (by omega)] at hx
        exact hmn _ _ (hvn i c' x hc'' hx)
      · have hi2 : i = d.P.length := by
          have := (List.getElem?_eq_some_iff.1 hc'').1
          simp at this; omega
        subst hi2
        rw [List.getElem?_append_right (Nat.le_refl _), Nat.sub_self] at hc''
        rw [← hvl, List.getElem?_append_right (Nat.le_refl _), Nat.sub_self] at hx
        cases hc''; cases hx
        exact hmn _ _ hu
  · refine ⟨hg.os, hg.tape, hg.output, by rw [hsz]; exact hg.size, fun b hbl hn => ?_, hown⟩
    rw [hso b fun e => hn (.inr (.inl e)), hb b hbl fun e => hn (.inr (.inr e))]
end Go.Proofs.Ytbblgmkjgcjcaab
