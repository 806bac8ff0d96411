/- Sets of literals as maps of Go; what follows as a set of literals, clause by clause, until nothing is new. -/
import Derived.Test.YtbblgmkjgcjcaabRupLaw
import Derived.Maps.Own
import Derived.Maps.OwnSet
import Derived.Maps.Range
import Derived.Maps.RangeWalk
namespace Go.Proofs.Ytbblgmkjgcjcaab
open Go.RowKit Go.Lib

/-- One more of a set. -/
def addS (s : List Int) (x : Int) : List Int := if x ∈ s then s else s ++ [x]
theorem mem_addS {s : List Int} {x y : Int} : y ∈ addS s x ↔ y ∈ s ∨ y = x := by
  unfold addS
  split
  · rename_i h
    exact ⟨.inl, fun h2 => h2.elim id fun e => e ▸ h⟩
  · simp
theorem nodup_addS {s : List Int} {x : Int} (h : s.Nodup) : (addS s x).Nodup := by
  unfold addS
  split
  · exact h
  · rename_i hx
    rw [List.nodup_append]
    refine ⟨h, by simp, fun a ha b hb e => ?_⟩
    rw [List.mem_singleton.1 hb] at e
    exact hx (e ▸ ha)
/-- A small number. -/
def Sm (x : Int) : Prop := x.natAbs ≤ 1000
theorem sm_wf {x : Int} (h : Sm x) : (Lit.int .i64 x).wf = true := by
  unfold Sm at h
  have e1 : IntKind.i64.min = -9223372036854775808 := by decide
  have e2 : IntKind.i64.max = 9223372036854775807 := by decide
  simp [Lit.wf]
  omega
theorem law_int : Maps.Keyed Try.prog 3 := Maps.int_keyed Try.underlying3
theorem key_int {x : Int} (h : Sm x) : keyOf Try.prog 3 (.int .i64 x) = some (.int .i64 x) := Maps.keyOf_int_mk Try.underlying3 (sm_wf h)
/-- The block g is a map of just these, each once, to true. -/
def SetMap (g : Nat) (s : List Int) (w : World) : Prop := ∃ D : DataW Unit, w.ownsMap Try.prog 3 (plainElem Try.prog 4) g s.length D ∧ Maps.size D = s.length ∧ s.Nodup ∧ (∀ x, Maps.has D (.int .i64 x) = decide (x ∈ s)) ∧ ∀ x, D.atKey (.int .i64 x) (.lit (.bool false)) = .lit (.bool (decide (x ∈ s)))
theorem SetMap.lt {g : Nat} {s : List Int} {w : World} (h : SetMap g s w) : g < w.heap.size := by obtain ⟨D, h, -⟩ := h; exact h.lt
theorem SetMap.nodup {g : Nat} {s : List Int} {w : World} (h : SetMap g s w) : s.Nodup := by obtain ⟨D, -, -, h, -⟩ := h; exact h
theorem SetMap.kept {g : Nat} {s : List Int} {w w' : World} {row : Option Nat} (h : SetMap g s w) (hg : w.grownBy w' row) (hne : some g ≠ row) : SetMap g s w' := by
  obtain ⟨D, h1, h2⟩ := h
  exact ⟨D, h1.kept hg hne, h2⟩
theorem SetMap.keep {g : Nat} {s : List Int} {w w' : World} (h : SetMap g s w) (k : Keep w w') : SetMap g s w' := h.kept (row := none) ⟨k.os, k.tape, k.output, k.size, fun b hb _ => k.block b hb⟩ (by simp)
theorem SetMap.turn {g : Nat} {s : List Int} {w w' : World} {O O' : Nat → Prop} (h : SetMap g s w) (k : Turn O O' w w') (hg : ¬ O g) : SetMap g s w' := by
  obtain ⟨D, ⟨es, clock, hb, h1⟩, h2⟩ := h
  exact ⟨D, ⟨es, clock, (k.block g (Array.getElem?_eq_some_iff.1 hb).1 hg).trans hb, h1⟩, h2⟩
theorem setmap_made (w : World) : SetMap w.heap.size [] (w.alloc (.map #[] 0)) := by
  refine ⟨.map [], World.ownsMap_made w _ _ _, rfl, by simp, fun x => ?_, fun x => ?_⟩
  · simp [Maps.has]
  · simp [DataW.atKey]
set_option maxRecDepth 100000 in
theorem plain_bool_inv {v : Value} {z : DataW Unit × List MemPlace} (h : plainElem Try.prog 4 v = some z) : ∃ c, v = .bool c ∧ z = (.lit (.bool c), []) := by
  unfold plainElem at h
  rw [Try.underlying4] at h
  cases v <;> simp at h
  exact ⟨_, rfl, h.symm⟩
theorem SetMap.look {g : Nat} {s : List Int} {w : World} {t : TypeId} (h : SetMap g s w) (ht : Try.prog.underlying t = some (.map 3 4)) {x : Int} (hx : Sm x) : (Instr.lookup t (.map (some g)) (.int .i64 x) false).run Try.prog w = .ok (.bool (decide (x ∈ s))) w := by
  obtain ⟨D, h1, -, -, -, h2⟩ := h
  obtain ⟨v, ps, hrun, hv⟩ := h1.lookup law_int ht (z := .bool false) (by kernel_rfl) (plainElem_bool Try.underlying4 false) (key_int hx)
  rw [h2 x] at hv
  obtain ⟨c, rfl, hc⟩ := plain_bool_inv hv
  have e : decide (x ∈ s) = c := by simpa using congrArg Prod.fst hc
  rw [hrun, e]
theorem SetMap.len {g : Nat} {s : List Int} {w : World} {t : TypeId} (h : SetMap g s w) (ht : Try.prog.underlying t = some (.map 3 4)) (ty : TypeId) : (Builtin.len_ #[t] ty #[.map (some g)]).run Try.prog w = .ok (.int .i64 s.length) w := by
  obtain ⟨D, h1, h2, -⟩ := h
  have := h1.len ht ty
  rw [h2] at this
  exact this
theorem own_tight {g n : Nat} {D : DataW Unit} {w : World} (h : w.ownsMap Try.prog 3 (plainElem Try.prog 4) g n D) : w.ownsMap Try.prog 3 (plainElem Try.prog 4) g (Maps.size D) D := by
  obtain ⟨es, clock, hb, F, hs, rfl⟩ := h
  refine ⟨es, clock, hb, F, ?_, rfl⟩
  rw [Maps.size_eq, length_sorted]
  simp
theorem SetMap.put {g : Nat} {s : List Int} {w : World} {t : TypeId} (h : SetMap g s w) (ht : Try.prog.underlying t = some (.map 3 4)) {x : Int} (hx : Sm x) (hl : s.length < 1000000) : ∃ w', (Instr.mapUpdate t (.map (some g)) (.int .i64 x) (.bool true)).run Try.prog w = .ok () w' ∧ SetMap g (addS s x) w' ∧ w.grownBy w' (some g) := by
  obtain ⟨D, h1, h2, hn, h3, h4⟩ := h
  obtain ⟨w', hrun, hown, hgr⟩ := h1.update law_int ht (by unfold maxLen; omega) (key_int hx) (plainElem_bool Try.underlying4 true)
  refine ⟨w', hrun, ?_, hgr⟩
  have hT := h1.tidy law_int
  have hM := h1.isMap
  have hk : WideAt.IsKeyLit (Lit.int .i64 x) := by simp [WideAt.IsKeyLit]
  have hsz : Maps.size (D.put (.int .i64 x) (.lit (.bool true))) = (addS s x).length := by
    rw [Maps.size_put hT, h3 x, h2]
    unfold addS
    by_cases e : x ∈ s
    · simp [e]
    · simp [e]
  refine ⟨D.put (.int .i64 x) (.lit (.bool true)), by rw [← hsz]; exact own_tight hown, hsz, nodup_addS hn, fun y => ?_, fun y => ?_⟩
  · by_cases e : y = x
    · subst e
      rw [Maps.has_put_same hM hk]
      simp [mem_addS]
    · rw [Maps.has_put_other (by simpa using e), h3 y]
      simp [mem_addS, e]
  · by_cases e : y = x
    · subst e
      rw [Maps.atKey_put_same hM hk]
      simp [mem_addS]
    · rw [Maps.atKey_put_other (by simpa using e), h4 y]
      simp [mem_addS, e]

/-- Those of a clause that can hold, each once. -/
def opn (s : List Int) : List Int → List Int → List Int
  | acc, [] => acc
  | acc, x :: c => if -x ∈ s then opn s acc c else opn s (addS acc x) c
theorem mem_opn {s : List Int} : ∀ {c acc : List Int} {y : Int}, y ∈ opn s acc c ↔ y ∈ acc ∨ (y ∈ c ∧ -y ∉ s)
  | [], acc, y => by simp [opn]
  | x :: c, acc, y => by
    unfold opn
    by_cases h : -x ∈ s
    · rw [if_pos h, mem_opn]
      constructor
      · rintro (h1 | h1)
        · exact .inl h1
        · exact .inr ⟨List.mem_cons_of_mem _ h1.1, h1.2⟩
      · rintro (h1 | ⟨h1, h2⟩)
        · exact .inl h1
        · rcases List.mem_cons.1 h1 with rfl | h1
          · exact absurd h h2
          · exact .inr ⟨h1, h2⟩
    · rw [if_neg h, mem_opn, mem_addS]
      constructor
      · rintro ((h1 | h1) | h1)
        · exact .inl h1
        · exact .inr ⟨h1 ▸ List.mem_cons_self, h1 ▸ h⟩
        · exact .inr ⟨List.mem_cons_of_mem _ h1.1, h1.2⟩
      · rintro (h1 | ⟨h1, h2⟩)
        · exact .inl (.inl h1)
        · rcases List.mem_cons.1 h1 with h1 | h1
          · exact .inl (.inr h1)
          · exact .inr ⟨h1, h2⟩
theorem opn_len {s : List Int} : ∀ (c acc : List Int), (opn s acc c).length ≤ acc.length + c.length
  | [], acc => by simp [opn]
  | x :: c, acc => by
    unfold opn
    have h1 : (addS acc x).length ≤ acc.length + 1 := by unfold addS; split <;> simp
    split
    · have := opn_len (s := s) c acc; simp only [List.length_cons]; omega
    · have := opn_len (s := s) c (addS acc x); simp only [List.length_cons]; omega
/-- The clause asks for nothing more of the set. -/
def ClS (s c : List Int) : Prop := (∃ x ∈ c, x ∈ s) ∨ ∃ x ∈ c, ∃ y ∈ c, x ≠ y ∧ -x ∉ s ∧ -y ∉ s
/-- A set of literals that agree, all derived. -/
structure GS (n : Nat) (F : List (List Int)) (A s : List Int) : Prop where
  lit : ∀ x ∈ s, Lit n x
  con : ∀ x ∈ s, -x ∉ s
  der : ∀ x ∈ s, Der F A x
  has : ∀ a ∈ A, a ∈ s
  nodup : s.Nodup
theorem GS.len {n : Nat} {F : List (List Int)} {A s : List Int} (h : GS n F A s) : s.length ≤ n := by
  have h1 : (s.map fun x => x.natAbs - 1).Nodup := by
    rw [List.nodup_iff_pairwise_ne, List.pairwise_map]
    have := h.nodup
    rw [List.nodup_iff_pairwise_ne] at this
    refine List.Pairwise.imp_of_mem ?_ this
    intro a b ha hb hne e
    have la := h.lit a ha
    have lb := h.lit b hb
    have h2 : a.natAbs = b.natAbs := by have := la.1; have := lb.1; omega
    rcases Int.natAbs_eq_natAbs_iff.1 h2 with h3 | h3
    · exact hne h3
    · exact h.con b hb (h3 ▸ ha)
  have := nodup_len (m := n) h1 fun p hp => by
    obtain ⟨x, hx, rfl⟩ := List.mem_map.1 hp
    have hl := h.lit x hx
    have e1 := hl.1
    have e2 := hl.2
    omega
  simpa using this
theorem GS.sm {n : Nat} {F : List (List Int)} {A s : List Int} (h : GS n F A s) (hn : n ≤ 1000) {x : Int} (hx : x ∈ s) : Sm x := Nat.le_trans (h.lit x hx).2 hn
/-- A clause is asked: nothing holds and none can. -/
theorem GS.fails {n : Nat} {F : List (List Int)} {A s c : List Int} (h : GS n F A s) (hc : c ∈ F) (ho : opn s [] c = []) : FailsF F A := by
  refine .inr ⟨c, hc, fun y hy => h.der _ ?_⟩
  refine Decidable.byContradiction fun hno => ?_
  have : y ∈ opn s [] c := mem_opn.2 (.inr ⟨hy, hno⟩)
  rw [ho] at this; simp at this
/-- .. one can: it is taken. -/
theorem GS.add {n : Nat} {F : List (List Int)} {A s c : List Int} {x : Int} (hF : ∀ c ∈ F, LitsC n c) (h : GS n F A s) (hc : c ∈ F) (hno : ∀ y ∈ c, y ∉ s) (ho : opn s [] c = [x]) : x ∉ s ∧ GS n F A (s ++ [x]) := by
  have hx : x ∈ opn s [] c := by rw [ho]; simp
  have hxc := (mem_opn.1 hx).resolve_left (by simp)
  have hxs := hno x hxc.1
  have hl := hF c hc x hxc.1
  refine ⟨hxs, ⟨fun y hy => ?_, fun y hy hm => ?_, fun y hy => ?_, fun a ha => List.mem_append_left _ (h.has a ha), ?_⟩⟩
  · rcases List.mem_append.1 hy with hy | hy
    · exact h.lit y hy
    · rw [List.mem_singleton.1 hy]; exact hl
  · rcases List.mem_append.1 hy with hy | hy <;> rcases List.mem_append.1 hm with hm | hm
    · exact h.con y hy hm
    · have e := List.mem_singleton.1 hm
      exact hxc.2 (by rw [← e, Int.neg_neg]; exact hy)
    · rw [List.mem_singleton.1 hy] at hm; exact hxc.2 hm
    · rw [List.mem_singleton.1 hy] at hm
      have := List.mem_singleton.1 hm
      have := hl.1; omega
  · rcases List.mem_append.1 hy with hy | hy
    · exact h.der y hy
    · rw [List.mem_singleton.1 hy]
      refine .unit hc hxc.1 fun z hz hne => h.der _ (Decidable.byContradiction fun hzn => ?_)
      have : z ∈ opn s [] c := mem_opn.2 (.inr ⟨hz, hzn⟩)
      rw [ho] at this
      exact hne (List.mem_singleton.1 this)
  · rw [List.nodup_append]
    refine ⟨h.nodup, by simp, fun a ha b hb e => ?_⟩
    rw [List.mem_singleton.1 hb] at e
    exact hxs (e ▸ ha)
theorem cls_two {s c : List Int} (h : 1 < (opn s [] c).length) (hn : (opn s [] c).Nodup) : ClS s c := by
  match he : opn s [] c, h with
  | a :: b :: r, _ =>
    have ha : a ∈ opn s [] c := by rw [he]; simp
    have hb : b ∈ opn s [] c := by rw [he]; simp
    have h1 := (mem_opn.1 ha).resolve_left (by simp)
    have h2 := (mem_opn.1 hb).resolve_left (by simp)
    rw [he] at hn
    exact .inr ⟨a, h1.1, b, h2.1, fun e => by subst e; simp at hn, h1.2, h2.2⟩
/-- Where no clause asks for more, it doesn't fail. -/
theorem GS.done {n : Nat} {F : List (List Int)} {A s : List Int} (h : GS n F A s) (hcl : ∀ c ∈ F, ClS s c) : ¬ FailsF F A := by
  have hd : ∀ x, Der F A x → x ∈ s := by
    intro x hx
    induction hx with
    | told hx => exact h.has _ hx
    | @unit c x hc hx _ ih =>
      rcases hcl c hc with ⟨y, hy, hys⟩ | ⟨y, hy, z, hz, hyz, h1, h2⟩
      · by_cases e : y = x
        · exact e ▸ hys
        · exact absurd (ih y hy e) (h.con y hys)
      · by_cases e : y = x
        · exact absurd (ih z hz (fun e2 => hyz (e.trans e2.symm))) h2
        · exact absurd (ih y hy e) h1
  rintro (⟨x, h1, h2⟩ | ⟨c, hc, hall⟩)
  · exact h.con x (hd x h1) (hd _ h2)
  · rcases hcl c hc with ⟨y, hy, hys⟩ | ⟨y, hy, z, hz, hyz, h1, h2⟩
    · exact h.con y hys (hd _ (hall y hy))
    · exact h1 (hd _ (hall y hy))
end Go.Proofs.Ytbblgmkjgcjcaab
