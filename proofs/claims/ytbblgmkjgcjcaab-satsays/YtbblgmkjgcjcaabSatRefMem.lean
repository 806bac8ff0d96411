/- The reference's search in memory: what its closure holds, the proof so far. -/
import Derived.Test.YtbblgmkjgcjcaabSatBoth
import Derived.Test.YtbblgmkjgcjcaabSatFollow
namespace Go.Proofs.Ytbblgmkjgcjcaab
open Go.RowKit Go.Lib

/-- The reference's search: from the block b on lie the formula, the steps that are left, the result, the answer, whether it is out, the closure. -/
structure RD where
  b : Nat
  s : Nat
  pv : Value
  P : List (List Int)
def RD.own (d : RD) (c : Nat) : Prop := c = d.b + 1 ∨ c = d.b + 3 ∨ c = d.b + 4 ∨ d.pv.ownBlock = some c
def RD.far (d : RD) (w : World) (c : Nat) : Prop := d.b + 6 ≤ c ∧ c < w.heap.size ∧ d.pv.ownBlock ≠ some c
def RD.clo (b : Nat) : Value := .func (.func 54) #[] #[.pointer (some ⟨b + 1, 0, none⟩), .pointer (some ⟨b + 4, 0, none⟩), .pointer (some ⟨b, 0, none⟩), .pointer (some ⟨b + 3, 0, none⟩), .pointer (some ⟨b + 5, 0, none⟩)]
structure RM (d : RD) (n : Nat) (F : List (List Int)) (p : Option Addr) (cap : Nat) (w : World) : Prop where
  fo : BoxAt d.b 24 #[.int .i64 (n : Int), .slice p F.length cap] w
  st : VarAt (d.b + 1) 3 (.int .i64 (d.s : Int)) w
  an : BoxAt (d.b + 3) 53 #[.slice none 0 0, d.pv] w
  ou : VarAt (d.b + 4) 4 (.bool false) w
  re : VarAt (d.b + 5) 82 (RD.clo d.b) w
  pr : CRow (d.b + 6) (d.far w) d.pv d.P w
theorem RM.lt {d : RD} {n : Nat} {F : List (List Int)} {p : Option Addr} {cap : Nat} {w : World} (h : RM d n F p cap w) {c : Nat} (hc : d.own c) : c < w.heap.size := by
  rcases hc with rfl | rfl | rfl | hc
  · exact h.st.facts.2.2
  · exact h.an.facts.2.2
  · exact h.ou.facts.2.2
  · exact (h.pr.in hc).2
theorem RM.nw {d : RD} {n : Nat} {F : List (List Int)} {p : Option Addr} {cap : Nat} {w : World} (h : RM d n F p cap w) : d.b + 6 ≤ w.heap.size := by have := h.re.facts.2.2; omega
/-- What lies in other blocks may change. -/
theorem RM.other {d : RD} {n : Nat} {F : List (List Int)} {p : Option Addr} {cap : Nat} {w w' : World} (h : RM d n F p cap w) (hz : w.heap.size ≤ w'.heap.size) (hb : ∀ c, d.b ≤ c → c < w.heap.size → w'.heap[c]? = w.heap[c]?) : RM d n F p cap w' := by
  have l0 := h.fo.facts.2.2
  have l1 := h.st.facts.2.2
  have l3 := h.an.facts.2.2
  have l4 := h.ou.facts.2.2
  have l5 := h.re.facts.2.2
  refine ⟨?_, ?_, ?_, ?_, ?_, h.pr.mono (fun g hg => hb g (by have := (h.pr.in hg).1; omega) (h.pr.in hg).2) fun c hc => ⟨hb c (by have := hc.1; omega) hc.2.1, hc.1, Nat.lt_of_lt_of_le hc.2.1 hz, hc.2.2⟩⟩
  · have := h.fo; unfold BoxAt at *; rw [hb _ (Nat.le_refl _) l0]; exact this
  · have := h.st; unfold VarAt at *; rw [hb _ (by omega) l1]; exact this
  · have := h.an; unfold BoxAt at *; rw [hb _ (by omega) l3]; exact this
  · have := h.ou; unfold VarAt at *; rw [hb _ (by omega) l4]; exact this
  · have := h.re; unfold VarAt at *; rw [hb _ (by omega) l5]; exact this
theorem RM.keep {d : RD} {n : Nat} {F : List (List Int)} {p : Option Addr} {cap : Nat} {w w' : World} (h : RM d n F p cap w) (k : Keep w w') : RM d n F p cap w' := h.other k.size fun c _ hc => k.block c hc
/-- A step begins. -/
theorem RM.less {d : RD} {n : Nat} {F : List (List Int)} {p : Option Addr} {cap : Nat} {w : World} (h : RM d n F p cap w) (s' : Nat) : RM { d with s := s' } n F p cap (w.setCell ⟨d.b + 1, 0, none⟩ (.int .i64 (s' : Int))) ∧ Turn d.own ({ d with s := s' } : RD).own w (w.setCell ⟨d.b + 1, 0, none⟩ (.int .i64 (s' : Int))) := by
  have hso : ∀ c, c ≠ d.b + 1 → (w.setCell ⟨d.b + 1, 0, none⟩ (.int .i64 (s' : Int))).heap[c]? = w.heap[c]? := fun c hc => Below.heap_setCell _ _ _ _ (fun e => hc e)
  have hsz : (w.setCell ⟨d.b + 1, 0, none⟩ (.int .i64 (s' : Int))).heap.size = w.heap.size := by simp
  refine ⟨⟨?_, h.st.set _, ?_, ?_, ?_, h.pr.mono (fun g hg => hso g (by have := (h.pr.in hg).1; omega)) fun c hc => ⟨hso c (by have := hc.1; omega), hc.1, by rw [hsz]; exact hc.2.1, hc.2.2⟩⟩, Turn.set _ _ _ _ _ (.inl rfl)⟩
  · have := h.fo; unfold BoxAt at *; dsimp only; rw [hso _ (by omega)]; exact this
  · have := h.an; unfold BoxAt at *; dsimp only; rw [hso _ (by omega)]; exact this
  · have := h.ou; unfold VarAt at *; dsimp only; rw [hso _ (by omega)]; exact this
  · have := h.re; unfold VarAt at *; dsimp only; rw [hso _ (by omega)]; exact this
/-- One more clause of the proof. -/
theorem RM.push {d : RD} {n : Nat} {F : List (List Int)} {p : Option Addr} {cap : Nat} {w w5 : World} (h : RM d n F p cap w) {vs : List Value} {u v' : Value} {c : List Int} (hvl : vs.length = d.P.length) (hvn : ∀ (i : Nat) c x, d.P[i]? = some c → vs[i]? = some x → NumsIs (d.far w) w c x)
    (hu : NumsIs (d.far w) w c u) (hg : w.grownBy w5 d.pv.ownBlock) (ho : v'.ownBlock = d.pv.ownBlock ∨ ∃ g, v'.ownBlock = some g ∧ w.heap.size ≤ g) (h5 : w5.ownsRow (d.b + 6) 38 1 v' (d.P.length + 1) (vs ++ [u])) :
    RM { d with pv := v', P := d.P ++ [c] } n F p cap (w5.setCell ⟨d.b + 3, 1, none⟩ v') ∧ Turn d.own ({ d with pv := v', P := d.P ++ [c] } : RD).own w (w5.setCell ⟨d.b + 3, 1, none⟩ v') := by
  have l0 := h.fo.facts.2.2
  have l1 := h.st.facts.2.2
  have l3 := h.an.facts.2.2
  have l4 := h.ou.facts.2.2
  have l5 := h.re.facts.2.2
  have hpv : ∀ g, d.pv.ownBlock = some g → d.b + 6 ≤ g := fun g hg => (h.pr.in hg).1
  have hb : ∀ b, b < w.heap.size → d.pv.ownBlock ≠ some b → w5.heap[b]? = w.heap[b]? := fun b hb hn => hg.block b hb fun e => hn e.symm
  have hlow : ∀ b, b < d.b + 6 → w5.heap[b]? = w.heap[b]? := fun b hbl => hb b (by omega) fun e => by have := hpv b e; omega
  have hso : ∀ b, b ≠ d.b + 3 → (w5.setCell ⟨d.b + 3, 1, none⟩ v').heap[b]? = w5.heap[b]? := fun b hb => Below.heap_setCell _ _ _ _ (fun e => hb e)
  have hsz : (w5.setCell ⟨d.b + 3, 1, none⟩ v').heap.size = w5.heap.size := by simp
  have hown : ∀ b, ({ d with pv := v', P := d.P ++ [c] } : RD).own b → d.own b ∨ w.heap.size ≤ b := fun b e => by
    rcases e with e | e | e | e
    · exact .inl (.inl e)
    · exact .inl (.inr (.inl e))
    · exact .inl (.inr (.inr (.inl e)))
    · rcases ho with ho | ⟨g, ho, hge⟩
      · exact .inl (.inr (.inr (.inr (ho ▸ e))))
      · have e2 : v'.ownBlock = some b := e
        rw [ho] at e2; have := Option.some.inj e2; exact .inr (by omega)
  have hfar : ∀ b, d.far w b → (w5.setCell ⟨d.b + 3, 1, none⟩ v').heap[b]? = w.heap[b]? ∧ ({ d with pv := v', P := d.P ++ [c] } : RD).far (w5.setCell ⟨d.b + 3, 1, none⟩ v') b := fun b hf => by
    refine ⟨?_, hf.1, ?_, fun e => ?_⟩
    · rw [hso b (by have := hf.1; omega), hb b hf.2.1 hf.2.2]
    · rw [hsz]; exact Nat.lt_of_lt_of_le hf.2.1 hg.size
    · have e2 : v'.ownBlock = some b := e
      rcases ho with ho | ⟨g, ho, hge⟩
      · exact hf.2.2 (ho ▸ e2)
      · rw [ho] at e2; have := Option.some.inj e2; have := hf.2.1; omega
  have hmn : ∀ c x, NumsIs (d.far w) w c x → NumsIs (({ d with pv := v', P := d.P ++ [c] } : RD).far (w5.setCell ⟨d.b + 3, 1, none⟩ v')) (w5.setCell ⟨d.b + 3, 1, none⟩ v') c x := fun c x hx => hx.mono (fun p hp => World.cell?_of_block (w := w) (hfar _ hp).1) fun b hb => (hfar b hb).2
  refine ⟨⟨?_, ?_, ?_, ?_, ?_, ?_⟩, ?_⟩
  · have := h.fo; unfold BoxAt at *; dsimp only; rw [hso _ (by omega), hlow _ (by omega)]; exact this
  · have := h.st; unfold VarAt at *; dsimp only; rw [hso _ (by omega), hlow _ (by omega)]; exact this
  · have h6 : BoxAt (d.b + 3) 53 #[.slice none 0 0, d.pv] w5 := by
      have := h.an
      unfold BoxAt at *
      rw [hlow _ (by omega)]; exact this
    exact h6.set 1 v'
  · have := h.ou; unfold VarAt at *; dsimp only; rw [hso _ (by omega), hlow _ (by omega)]; exact this
  · have := h.re; unfold VarAt at *; dsimp only; rw [hso _ (by omega), hlow _ (by omega)]; exact this
  · refine ⟨vs ++ [u], by simp [hvl], ?_, fun i c' x hc' hx => ?_⟩
    · have h6 := owns_other (w' := w5.setCell ⟨d.b + 3, 1, none⟩ v') h5 fun g hgv => hso g (by have := (owns_in h5 hgv).1; omega)
      simpa using h6
    · have hc'' : (d.P ++ [c])[i]? = some c' := hc'
      by_cases hi : i < d.P.length
      · rw [List.getElem?_append_left hi] at hc''
        rw [List.getElem?_append_left (by omega)] at hx
        exact hmn _ _ (hvn i c' x hc'' hx)
      · have hi2 : i = d.P.length := by
          have := (List.getElem?_eq_some_iff.1 hc'').1
          simp at this; omega
        subst hi2
        rw [List.getElem?_append_right (Nat.le_refl _), Nat.sub_self] at hc''
        rw [← hvl, List.getElem?_append_right (Nat.le_refl _), Nat.sub_self] at hx
        cases hc''; cases hx
        exact hmn _ _ hu
  · refine ⟨hg.os, hg.tape, hg.output, by rw [hsz]; exact hg.size, fun b hbl hn => ?_, hown⟩
    rw [hso b fun e => hn (.inr (.inl e)), hb b hbl fun e => hn (.inr (.inr (.inr e)))]
/-- What a step of the reference leaves, where the search says r. -/
def RDone (d : RD) (n : Nat) (F : List (List Int)) (p : Option Addr) (cap : Nat) (r : SRes) (w : World) (e : Ending) (w' : World) : Prop :=
  ∃ d' : RD, d'.b = d.b ∧ Turn d.own d'.own w w' ∧
    ((r.o = .out ∧ e = .returned (.bool true) ∧ VarAt (d.b + 4) 4 (.bool true) w') ∨
     (∃ m ad mc pv', r.o = .model m ∧ e = .returned (.bool true) ∧ VarAt (d.b + 4) 4 (.bool false) w' ∧ BoxAt (d.b + 3) 53 #[.slice (some ad) m.length mc, pv'] w' ∧ (∃ q k l, pv' = .slice q k l) ∧ BoolsIs (fun c => d.b + 6 ≤ c ∧ c < w'.heap.size) w' m (.slice (some ad) m.length mc)) ∨
     (r.o = .closed ∧ e = .returned (.bool false) ∧ RM d' n F p cap w' ∧ d'.s = r.s ∧ d'.P = r.P))
def RStepOK (F : List (List Int)) (n g : Nat) : Prop := ∀ (d : RD) (S : Nat → Prop) (A : List Int) (av : Value) (p : Option Addr) (cap : Nat) (w : World), RM d n F p cap w → ClsIs S w F (.slice p F.length cap) → NumsIs S w A av → (∀ b, S b → b < w.heap.size ∧ ¬ d.own b) → A.length + g = 61 → LitsC n A → d.P.length + d.s ≤ 40000 → (∀ k c, av = .slice none k c → c = 0) →
  Calls Try.prog 54 #[av, .pointer (some ⟨d.b + 1, 0, none⟩), .pointer (some ⟨d.b + 4, 0, none⟩), .pointer (some ⟨d.b, 0, none⟩), .pointer (some ⟨d.b + 3, 0, none⟩), .pointer (some ⟨d.b + 5, 0, none⟩)] w fun e w' => RDone d n F p cap (srch n F g A d.s d.P) w e w'
theorem enter_from (args : Array Value) (w : World) : (callFunc 54 args).run Try.prog w = .ok (.enter 54 args) w := enters_of Try.func54 (by kernel_rfl) rfl args w
end Go.Proofs.Ytbblgmkjgcjcaab
