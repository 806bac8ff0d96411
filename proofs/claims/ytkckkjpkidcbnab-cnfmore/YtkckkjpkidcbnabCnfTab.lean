/- The table of package follow: which clauses a literal stands in; as plain data and in memory. -/
import Derived.Test.YtkckkjpkidcbnabCnfHolds
namespace Go.Proofs.Ytkckkjpkidcbnab
open Go.RowKit Go.Lib

/-- The clause is put behind the row of a literal. -/
def putL (n : Nat) (c : List Int) (R : List (List (List Int))) (x : Int) : List (List (List Int)) := R.set ((n : Int) + x).toNat (R.getD ((n : Int) + x).toNat [] ++ [c])
def addC (n : Nat) (R : List (List (List Int))) (c : List Int) : List (List (List Int)) := c.foldl (putL n c) R
def addL (n : Nat) (R : List (List (List Int))) (F : List (List Int)) : List (List (List Int)) := F.foldl (addC n) R
theorem putL_len (n : Nat) (c : List Int) (R : List (List (List Int))) (x : Int) : (putL n c R x).length = R.length := by simp [putL]
theorem foldC_len (n : Nat) (c : List Int) : ∀ (xs : List Int) (R : List (List (List Int))), (xs.foldl (putL n c) R).length = R.length
  | [], _ => rfl
  | x :: xs, R => by rw [List.foldl_cons, foldC_len n c xs, putL_len]
theorem addC_len (n : Nat) (R : List (List (List Int))) (c : List Int) : (addC n R c).length = R.length := foldC_len n c c R
theorem addL_len (n : Nat) : ∀ (F : List (List Int)) (R : List (List (List Int))), (addL n R F).length = R.length
  | [], _ => rfl
  | c :: F, R => by
    show (addL n (addC n R c) F).length = _
    rw [addL_len n F, addC_len]
theorem getD_set (R : List (List (List Int))) (i j : Nat) (r : List (List Int)) (hi : i < R.length) : (R.set i r).getD j [] = if j = i then r else R.getD j [] := by
  by_cases h : j = i
  · subst h; simp [List.getD_eq_getElem?_getD, hi]
  · simp [List.getD_eq_getElem?_getD, h, Ne.symm h]
theorem mem_putL {n : Nat} {c : List Int} {R : List (List (List Int))} {x : Int} (hR : R.length = 2 * n + 1) (hx : Lit n x) (i : Nat) (d : List Int) : d ∈ (putL n c R x).getD i [] ↔ d ∈ R.getD i [] ∨ (d = c ∧ (i : Int) - n = x) := by
  unfold putL
  have h1 : ((n : Int) + x).toNat < R.length := by have := hx.2; omega
  have h2 : 0 ≤ (n : Int) + x := by have := hx.2; omega
  rw [getD_set _ _ _ _ h1]
  by_cases h : i = ((n : Int) + x).toNat
  · rw [if_pos h, List.mem_append, List.mem_singleton, h]
    constructor
    · rintro (h3 | h3)
      · exact .inl h3
      · exact .inr ⟨h3, by omega⟩
    · rintro (h3 | h3)
      · exact .inl h3
      · exact .inr h3.1
  · rw [if_neg h]
    constructor
    · exact .inl
    · rintro (h3 | h3)
      · exact h3
      · exact absurd (by omega) h
theorem mem_foldC {n : Nat} {c : List Int} : ∀ {xs : List Int} {R : List (List (List Int))}, R.length = 2 * n + 1 → LitsC n xs → ∀ (i : Nat) (d : List Int), d ∈ (xs.foldl (putL n c) R).getD i [] ↔ d ∈ R.getD i [] ∨ (d = c ∧ (i : Int) - n ∈ xs)
  | [], R, _, _, i, d => by simp
  | x :: xs, R, hR, hx, i, d => by
    rw [List.foldl_cons, mem_foldC (by rw [putL_len]; exact hR) (fun y hy => hx y (List.mem_cons_of_mem _ hy)), mem_putL hR (hx x List.mem_cons_self), List.mem_cons]
    constructor
    · rintro ((h | h) | h)
      · exact .inl h
      · exact .inr ⟨h.1, .inl h.2⟩
      · exact .inr ⟨h.1, .inr h.2⟩
    · rintro (h | ⟨h, h2 | h2⟩)
      · exact .inl (.inl h)
      · exact .inl (.inr ⟨h, h2⟩)
      · exact .inr ⟨h, h2⟩
theorem mem_addC {n : Nat} {c : List Int} {R : List (List (List Int))} (hR : R.length = 2 * n + 1) (hc : LitsC n c) (i : Nat) (d : List Int) : d ∈ (addC n R c).getD i [] ↔ d ∈ R.getD i [] ∨ (d = c ∧ (i : Int) - n ∈ c) := mem_foldC hR hc i d
theorem mem_addL {n : Nat} : ∀ {F : List (List Int)} {R : List (List (List Int))}, R.length = 2 * n + 1 → (∀ c ∈ F, LitsC n c) → ∀ (i : Nat) (d : List Int), d ∈ (addL n R F).getD i [] ↔ d ∈ R.getD i [] ∨ (d ∈ F ∧ (i : Int) - n ∈ d)
  | [], R, _, _, i, d => by simp [addL]
  | c :: F, R, hR, hF, i, d => by
    show d ∈ (addL n (addC n R c) F).getD i [] ↔ _
    rw [mem_addL (by rw [addC_len]; exact hR) (fun y hy => hF y (List.mem_cons_of_mem _ hy)), mem_addC hR (hF c List.mem_cons_self), List.mem_cons]
    constructor
    · rintro ((h | h) | h)
      · exact .inl h
      · exact .inr ⟨.inl h.1, h.1 ▸ h.2⟩
      · exact .inr ⟨.inr h.1, h.2⟩
    · rintro (h | ⟨h | h, h2⟩)
      · exact .inl (.inl h)
      · exact .inl (.inr ⟨h, h ▸ h2⟩)
      · exact .inr ⟨h, h2⟩

/-- The blocks that the table writes. -/
def TabOwn (bx bw : Nat) (w : World) (b : Nat) : Prop := b = bx ∨ b = bw ∨ ∃ o v, (w.cell? ⟨bx, o, none⟩ = some v ∨ w.cell? ⟨bw, o, none⟩ = some v) ∧ v.ownBlock = some b
/-- The table in memory: at bx its three fields, at bw the rows; what is put into them lies in blocks from B on. -/
structure Cls (B : Nat) (S : Nat → Prop) (bx bw n : Nat) (sv : Value) (rv : List Value) (sh : List (List Int)) (R : List (List (List Int))) (w : World) : Prop where
  box : BoxAt bx 60 #[.int .i64 n, sv, .slice (some ⟨bw, 0, none⟩) (2 * n + 1) (2 * n + 1)] w
  arr : BoxAt bw 22 rv.toArray w
  tab : Tab B S (sv :: rv) (sh :: R) w
  len : R.length = 2 * n + 1
  low : bx < B ∧ bw < B ∧ bx ≠ bw ∧ B ≤ w.heap.size
  old : ∀ b, S b → b < B ∧ b ≠ bx ∧ b ≠ bw
theorem Cls.rlen {B : Nat} {S : Nat → Prop} {bx bw n : Nat} {sv : Value} {rv : List Value} {sh : List (List Int)} {R : List (List (List Int))} {w : World} (h : Cls B S bx bw n sv rv sh R w) : rv.length = 2 * n + 1 := by
  have := h.tab.len
  simp only [List.length_cons] at this
  have := h.len
  omega
theorem Cls.keep {B : Nat} {S : Nat → Prop} {bx bw n : Nat} {sv : Value} {rv : List Value} {sh : List (List Int)} {R : List (List (List Int))} {w w' : World} (h : Cls B S bx bw n sv rv sh R w) (k : Keep w w') : Cls B S bx bw n sv rv sh R w' := by
  have hl := h.low
  refine ⟨h.box.keep k h.box.facts.2.2, h.arr.keep k h.arr.facts.2.2, h.tab.keep (fun b hb => Nat.lt_of_lt_of_le (h.old b hb).1 hl.2.2.2) k, h.len, ⟨hl.1, hl.2.1, hl.2.2.1, Nat.le_trans hl.2.2.2 k.size⟩, h.old⟩
theorem grown_alloc {w w' : World} {row : Option Nat} {o : Obj} (h : (w.alloc o).grownBy w' row) : w.grownBy w' row :=
  ⟨h.os, h.tape, h.output, Nat.le_trans (by rw [alloc_size]; omega) h.size, fun k hk hn => (h.block k (by rw [alloc_size]; omega) hn).trans (by
    show (w.heap.push _)[k]? = _
    rw [Array.getElem?_push, if_neg (by omega)])⟩
theorem heap_setO (w : World) (c o : Nat) (x : Value) {b : Nat} (h : b ≠ c) : (w.setCell ⟨c, o, none⟩ x).heap[b]? = w.heap[b]? := Below.heap_setCell _ _ _ _ (fun e => h e)
theorem cell_setO (w : World) (c o : Nat) (x : Value) {b o' : Nat} (h : b ≠ c) : (w.setCell ⟨c, o, none⟩ x).cell? ⟨b, o', none⟩ = w.cell? ⟨b, o', none⟩ := World.cell?_of_block (w := w) (heap_setO w c o x h)
theorem size_setO (w : World) (c o : Nat) (x : Value) : (w.setCell ⟨c, o, none⟩ x).heap.size = w.heap.size := by
  have k : Below c w (w.setCell ⟨c, o, none⟩ x) := below_set w c o x
  simp
/-- Behind an append onto one of the rows, ahead of the store. -/
theorem Cls.grew {B : Nat} {S : Nat → Prop} {bx bw n : Nat} {sv : Value} {rv : List Value} {sh : List (List Int)} {R : List (List (List Int))} {w w5 : World} {i : Nat} {v v' x : Value} {r : List (List Int)} {xs : List Value} {c : List Int} (h : Cls B S bx bw n sv rv sh R w)
    (hv : (sv :: rv)[i]? = some v) (hr : (sh :: R)[i]? = some r) (hxs : xs.length = r.length ∧ ∀ (i : Nat) c x, r[i]? = some c → xs[i]? = some x → NumsIs S w c x) (hx : NumsIs S w c x)
    (hg : w.grownBy w5 v.ownBlock) (ho : v'.ownBlock = v.ownBlock ∨ ∃ g, v'.ownBlock = some g ∧ w.heap.size ≤ g) (h5 : w5.ownsRow B 38 1 v' (r.length + 1) (xs ++ [x])) :
    BoxAt bx 60 #[.int .i64 n, sv, .slice (some ⟨bw, 0, none⟩) (2 * n + 1) (2 * n + 1)] w5 ∧ BoxAt bw 22 rv.toArray w5 ∧ Tab B S ((sv :: rv).set i v') ((sh :: R).set i (r ++ [c])) w5 ∧ (∀ b, b < w.heap.size → ¬ TabOwn bx bw w b → w5.heap[b]? = w.heap[b]?) := by
  have hl := h.low
  have hin : ∀ g, v.ownBlock = some g → B ≤ g := fun g hg => ((h.tab.row i v r hv hr).in hg).1
  have hblk : ∀ b, b < w.heap.size → v.ownBlock ≠ some b → w5.heap[b]? = w.heap[b]? := fun b hb hn => hg.block b hb (fun e => hn e.symm)
  have hlow : ∀ b, b < B → w5.heap[b]? = w.heap[b]? := fun b hb => hblk b (by omega) (fun e => by have := hin b e; omega)
  refine ⟨?_, ?_, ?_, ?_⟩
  · have := h.box; unfold BoxAt at *; rw [hlow bx hl.1]; exact this
  · have := h.arr; unfold BoxAt at *; rw [hlow bw hl.2.1]; exact this
  · exact h.tab.push hv hr hxs hx (fun b hb => hlow b (h.old b hb).1) (fun b _ hb hn => hblk b hb hn) ho h5
  · intro b hb hn
    refine hblk b hb (fun e => hn ?_)
    cases i with
    | zero =>
      simp only [List.getElem?_cons_zero, Option.some.injEq] at hv
      subst hv
      exact .inr (.inr ⟨1, sv, .inl (by rw [h.box.facts.1]; rfl), e⟩)
    | succ i =>
      rw [List.getElem?_cons_succ] at hv
      exact .inr (.inr ⟨i, v, .inr (by rw [h.arr.facts.1]; simpa using hv), e⟩)
/-- A clause is put behind the row of a literal. -/
theorem Cls.put {B : Nat} {S : Nat → Prop} {bx bw n : Nat} {sv : Value} {rv : List Value} {sh : List (List Int)} {R : List (List (List Int))} {w w5 : World} {i : Nat} {v v' x : Value} {r : List (List Int)} {xs : List Value} {c : List Int} (h : Cls B S bx bw n sv rv sh R w)
    (hv : rv[i]? = some v) (hr : R[i]? = some r) (hxs : xs.length = r.length ∧ ∀ (i : Nat) c x, r[i]? = some c → xs[i]? = some x → NumsIs S w c x) (hx : NumsIs S w c x)
    (hg : w.grownBy w5 v.ownBlock) (ho : v'.ownBlock = v.ownBlock ∨ ∃ g, v'.ownBlock = some g ∧ w.heap.size ≤ g) (h5 : w5.ownsRow B 38 1 v' (r.length + 1) (xs ++ [x])) :
    Cls B S bx bw n sv (rv.set i v') sh (R.set i (r ++ [c])) (w5.setCell ⟨bw, i, none⟩ v') ∧ Apart (TabOwn bx bw) w (w5.setCell ⟨bw, i, none⟩ v') := by
  have hl := h.low
  obtain ⟨b1, b2, t1, f1⟩ := h.grew (i := i + 1) (by simpa using hv) (by simpa using hr) hxs hx hg ho h5
  have hso : ∀ b, b ≠ bw → (w5.setCell ⟨bw, i, none⟩ v').heap[b]? = w5.heap[b]? := fun b hb => heap_setO _ _ _ _ hb
  have hsz := size_setO w5 bw i v'
  have k : Below bw w5 (w5.setCell ⟨bw, i, none⟩ v') := below_set w5 bw i v'
  have hset : BoxAt bw 22 (rv.set i v').toArray (w5.setCell ⟨bw, i, none⟩ v') := by
    have := b2.set i v'
    rwa [show rv.toArray.setIfInBounds i v' = (rv.set i v').toArray by simp] at this
  refine ⟨⟨?_, hset, ?_, by simp [h.len], ⟨hl.1, hl.2.1, hl.2.2.1, by rw [hsz]; exact Nat.le_trans hl.2.2.2 hg.size⟩, h.old⟩, ?_⟩
  · unfold BoxAt at *; rw [hso bx hl.2.2.1]; exact b1
  · have t2 : Tab B S (sv :: rv.set i v') (sh :: R.set i (r ++ [c])) w5 := t1
    exact t2.other (fun b hb => hso b (h.old b hb).2.2) fun b hb _ => hso b (by omega)
  · refine ⟨k.os.trans hg.os, k.tape.trans hg.tape, k.output.trans hg.output, by rw [hsz]; exact hg.size, fun b hb hn => ?_, fun b hb hn => ?_⟩
    · rw [hso b (fun e => hn (.inr (.inl e)))]; exact f1 b hb hn
    · rcases hn with rfl | rfl | ⟨o, u, hu, hub⟩
      · exact .inl rfl
      · exact .inr (.inl rfl)
      · rcases hu with hu | hu
        · refine .inr (.inr ⟨o, u, .inl ?_, hub⟩)
          rw [World.cell?_of_block (w := w5) (hso bx hl.2.2.1), b1.facts.1] at hu
          rw [h.box.facts.1]; exact hu
        · rw [hset.facts.1] at hu
          by_cases ho' : o = i
          · subst ho'
            have hiv : o < rv.length := (List.getElem?_eq_some_iff.1 hv).1
            have hu2 : u = v' := by simpa [hiv] using hu.symm
            subst hu2
            rcases ho with ho | ⟨g, ho, hge⟩
            · exact .inr (.inr ⟨o, v, .inr (by rw [h.arr.facts.1]; simpa using hv), by rw [← ho]; exact hub⟩)
            · rw [ho] at hub; have := Option.some.inj hub; omega
          · refine .inr (.inr ⟨o, u, .inr ?_, hub⟩)
            rw [h.arr.facts.1]
            simpa [List.getElem?_set, Ne.symm ho'] using hu
/-- A clause is put behind the short ones. -/
theorem Cls.putShort {B : Nat} {S : Nat → Prop} {bx bw n : Nat} {sv : Value} {rv : List Value} {sh : List (List Int)} {R : List (List (List Int))} {w w5 : World} {v' x : Value} {xs : List Value} {c : List Int} (h : Cls B S bx bw n sv rv sh R w)
    (hxs : xs.length = sh.length ∧ ∀ (i : Nat) c x, sh[i]? = some c → xs[i]? = some x → NumsIs S w c x) (hx : NumsIs S w c x)
    (hg : w.grownBy w5 sv.ownBlock) (ho : v'.ownBlock = sv.ownBlock ∨ ∃ g, v'.ownBlock = some g ∧ w.heap.size ≤ g) (h5 : w5.ownsRow B 38 1 v' (sh.length + 1) (xs ++ [x])) :
    Cls B S bx bw n v' rv (sh ++ [c]) R (w5.setCell ⟨bx, 1, none⟩ v') ∧ Apart (TabOwn bx bw) w (w5.setCell ⟨bx, 1, none⟩ v') := by
  have hl := h.low
  obtain ⟨b1, b2, t1, f1⟩ := h.grew (i := 0) (v := sv) (r := sh) (by simp) (by simp) hxs hx hg ho h5
  have hso : ∀ b, b ≠ bx → (w5.setCell ⟨bx, 1, none⟩ v').heap[b]? = w5.heap[b]? := fun b hb => heap_setO _ _ _ _ hb
  have hsz := size_setO w5 bx 1 v'
  have k : Below bx w5 (w5.setCell ⟨bx, 1, none⟩ v') := below_set w5 bx 1 v'
  have hset : BoxAt bx 60 #[.int .i64 n, v', .slice (some ⟨bw, 0, none⟩) (2 * n + 1) (2 * n + 1)] (w5.setCell ⟨bx, 1, none⟩ v') := b1.set 1 v'
  refine ⟨⟨hset, ?_, ?_, h.len, ⟨hl.1, hl.2.1, hl.2.2.1, by rw [hsz]; exact Nat.le_trans hl.2.2.2 hg.size⟩, h.old⟩, ?_⟩
  · unfold BoxAt at *; rw [hso bw (Ne.symm hl.2.2.1)]; exact b2
  · have t2 : Tab B S (v' :: rv) ((sh ++ [c]) :: R) w5 := t1
    exact t2.other (fun b hb => hso b (h.old b hb).2.1) fun b hb _ => hso b (by omega)
  · refine ⟨k.os.trans hg.os, k.tape.trans hg.tape, k.output.trans hg.output, by rw [hsz]; exact hg.size, fun b hb hn => ?_, fun b hb hn => ?_⟩
    · rw [hso b (fun e => hn (.inl e))]; exact f1 b hb hn
    · rcases hn with rfl | rfl | ⟨o, u, hu, hub⟩
      · exact .inl rfl
      · exact .inr (.inl rfl)
      · rcases hu with hu | hu
        · rw [hset.facts.1] at hu
          match o, hu with
          | 0, hu => cases hu; cases hub
          | 1, hu =>
            have hu2 : some v' = some u := hu
            have hu3 := Option.some.inj hu2
            subst hu3
            rcases ho with ho | ⟨g, ho, hge⟩
            · exact .inr (.inr ⟨1, sv, .inl (by rw [h.box.facts.1]; rfl), by rw [← ho]; exact hub⟩)
            · rw [ho] at hub; have := Option.some.inj hub; omega
          | 2, hu => cases hu; cases hub; exact .inr (.inl rfl)
          | o + 3, hu => cases hu
        · refine .inr (.inr ⟨o, u, .inr ?_, hub⟩)
          rw [World.cell?_of_block (w := w5) (hso bw (Ne.symm hl.2.2.1)), b2.facts.1] at hu
          rw [h.arr.facts.1]; exact hu
/-- What is handed in is not written. -/
theorem Cls.no {B : Nat} {S : Nat → Prop} {bx bw n : Nat} {sv : Value} {rv : List Value} {sh : List (List Int)} {R : List (List (List Int))} {w : World} (h : Cls B S bx bw n sv rv sh R w) {b : Nat} (hb : b < B ∧ b ≠ bx ∧ b ≠ bw) : ¬ TabOwn bx bw w b := by
  intro hn
  rcases hn with rfl | rfl | ⟨o, v, hv, hvb⟩
  · exact hb.2.1 rfl
  · exact hb.2.2 rfl
  · rcases hv with hv | hv
    · rw [h.box.facts.1] at hv
      match o, hv with
      | 0, hv => cases hv; cases hvb
      | 1, hv =>
        have hu2 : some sv = some v := hv
        have hu3 := Option.some.inj hu2
        subst hu3
        have := ((h.tab.row 0 sv sh (by simp) (by simp)).in hvb).1; omega
      | 2, hv => cases hv; cases hvb; exact hb.2.2 rfl
      | o + 3, hv => cases hv
    · rw [h.arr.facts.1] at hv
      have hol : o < rv.length := by have := (Array.getElem?_eq_some_iff.1 hv).1; simpa using this
      have hoR : o < R.length := by have := h.rlen; have := h.len; omega
      have := ((h.tab.row (o + 1) v R[o] (by simpa using hv) (by simp [hoR])).in hvb).1
      have := hb.1; omega
theorem tab_keep {bx bw : Nat} {w w' : World} (hx : bx < w.heap.size) (hw : bw < w.heap.size) (k : Keep w w') : Apart (TabOwn bx bw) w w' := by
  refine ⟨k.os, k.tape, k.output, k.size, fun b hb _ => k.block b hb, fun b _ hn => ?_⟩
  rcases hn with rfl | rfl | ⟨o, v, hv, hvb⟩
  · exact .inl rfl
  · exact .inr (.inl rfl)
  · refine .inr (.inr ⟨o, v, ?_, hvb⟩)
    rcases hv with hv | hv
    · exact .inl ((k.cell (p := ⟨bx, o, none⟩) hx).symm.trans hv)
    · exact .inr ((k.cell (p := ⟨bw, o, none⟩) hw).symm.trans hv)
theorem own_far {v v' : Value} {w : World} {o : Obj} (h : v'.ownBlock = v.ownBlock ∨ v'.ownBlock = some (w.alloc o).heap.size) : v'.ownBlock = v.ownBlock ∨ ∃ g, v'.ownBlock = some g ∧ w.heap.size ≤ g := by
  rcases h with h | h
  · exact .inl h
  · exact .inr ⟨_, h, by rw [alloc_size]; omega⟩
end Go.Proofs.Ytkckkjpkidcbnab
