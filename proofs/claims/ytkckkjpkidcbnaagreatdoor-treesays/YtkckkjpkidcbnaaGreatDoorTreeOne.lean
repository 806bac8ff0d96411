/- Trees as plain data: what is wrong with one, its text, how a text is read; what is written is read, and what is read is written as it was. -/
import Derived.Test.YtkckkjpkidcbnaaGreatDoorNeedFlagged
import Derived.Lib.IndexMore
import Derived.BigQuiet
namespace Go.Proofs.YtkckkjpkidcbnaaGreatDoor

/-- A package: its name, version, slot, flags, need. -/
structure PK where
  n : ByteArray
  v : Int
  sl : Int
  fl : List ByteArray
  nd : NT
def NT.kind : NT → Int
  | .node k _ _ _ _ => k
def PK.zero : PK := ⟨⟨#[]⟩, 0, 0, [], NT.zero⟩
/-- The first that is not 0 of f i, f (i + 1), .., so many. -/
def firstE (f : Nat → Int) : Nat → Nat → Int
  | _, 0 => 0
  | i, m + 1 => if f i = 0 then firstE f (i + 1) m else f i
/-- Texts byte by byte, as the language holds them against each other. -/
def leS (x y : ByteArray) : Bool := Op.bytesLess x.toList y.toList || x.toList == y.toList
def flE (fs : List ByteArray) (k : Nat) : Int :=
  if nameB (fs.getD k ⟨#[]⟩).data.toList = false then 1 else if 0 < k ∧ leS (fs.getD k ⟨#[]⟩) (fs.getD (k - 1) ⟨#[]⟩) = true then 6 else 0
def chkFs (fs : List ByteArray) : Int := if 2 < fs.length then 2 else firstE (flE fs) 0 fs.length
def hasF (fs : List ByteArray) (x : List UInt8) : Bool := Lib.containsS fs ⟨x.toArray⟩
def chkNd (t : NT) (fs : List ByteArray) : Int :=
  if t.kind ≠ 3 then 4 else if chkN t ≠ 0 then chkN t else if t.sorted.all (hasF fs) = true then 0 else 5
def chkP (p : PK) : Int :=
  if nameB p.n.data.toList = false then 1 else if p.v < 1 ∨ 99 < p.v ∨ p.sl < 1 ∨ 9 < p.sl then 3 else if chkFs p.fl ≠ 0 then chkFs p.fl else chkNd p.nd p.fl
def behindB (p q : PK) : Bool := if p.n = q.n then decide (q.v < p.v) else !leS p.n q.n
def sumF (ps : List PK) (k : Nat) : Nat := ((ps.take k).map fun p => p.fl.length).sum
def pkE (ps : List PK) (k : Nat) : Int :=
  if chkP (ps.getD k PK.zero) ≠ 0 then chkP (ps.getD k PK.zero) else if 0 < k ∧ behindB (ps.getD k PK.zero) (ps.getD (k - 1) PK.zero) = false then 6 else if 14 < ps.length + sumF ps (k + 1) then 2 else 0
/-- What is wrong with a tree. -/
def chkT (ps : List PK) : Int := if 8 < ps.length then 2 else firstE (pkE ps) 0 ps.length

theorem firstE_zero {f : Nat → Int} : ∀ (m i : Nat), firstE f i m = 0 ↔ ∀ j, j < m → f (i + j) = 0
  | 0, i => by simp [firstE]
  | m + 1, i => by
    rw [firstE]
    split
    · rename_i h
      rw [firstE_zero m (i + 1)]
      constructor
      · intro H j hj
        cases j with
        | zero => exact h
        | succ j => rw [show i + (j + 1) = i + 1 + j by omega]; exact H j (by omega)
      · intro H j hj
        rw [show i + 1 + j = i + (j + 1) by omega]; exact H (j + 1) (by omega)
    · rename_i h
      constructor
      · intro H; exact absurd H h
      · intro H; exact absurd (H 0 (by omega)) h
theorem firstE_step {f : Nat → Int} {i n : Nat} (h : i < n) : firstE f i (n - i) = if f i = 0 then firstE f (i + 1) (n - (i + 1)) else f i := by
  rw [show n - i = (n - (i + 1)) + 1 by omega, firstE]
theorem sumF_succ {ps : List PK} {k : Nat} (h : k < ps.length) : sumF ps (k + 1) = sumF ps k + ps[k].fl.length := by
  unfold sumF
  rw [List.take_succ_eq_append_getElem h, List.map_append, List.sum_append]
  simp only [List.map_cons, List.map_nil, List.sum_cons, List.sum_nil, Nat.add_zero]
theorem chkT_get {ps : List PK} (h : chkT ps = 0) : ps.length ≤ 8 ∧ (∀ p ∈ ps, chkP p = 0) := by
  unfold chkT at h
  split at h
  · cases h
  · rename_i h8
    refine ⟨by omega, fun p hp => ?_⟩
    obtain ⟨k, hk, rfl⟩ := List.getElem_of_mem hp
    have := (firstE_zero _ _).1 h k hk
    rw [Nat.zero_add] at this
    unfold pkE at this
    rw [List.getD_eq_getElem?_getD, List.getElem?_eq_getElem hk, Option.getD_some] at this
    split at this
    · rename_i hne; exact absurd this hne
    · rename_i hne; exact Decidable.of_not_not hne
theorem chkFs_get {fs : List ByteArray} (h : chkFs fs = 0) : fs.length ≤ 2 ∧ ∀ f ∈ fs, nameB f.data.toList = true := by
  unfold chkFs at h
  split at h
  · cases h
  · refine ⟨by omega, fun p hp => ?_⟩
    obtain ⟨k, hk, rfl⟩ := List.getElem_of_mem hp
    have := (firstE_zero _ _).1 h k hk
    rw [Nat.zero_add] at this
    unfold flE at this
    rw [List.getD_eq_getElem?_getD, List.getElem?_eq_getElem hk, Option.getD_some] at this
    split at this
    · cases this
    · rename_i hne; simpa using hne
theorem chkP_get {p : PK} (h : chkP p = 0) : nameB p.n.data.toList = true ∧ (1 ≤ p.v ∧ p.v ≤ 99 ∧ 1 ≤ p.sl ∧ p.sl ≤ 9) ∧ chkFs p.fl = 0 ∧ p.nd.kind = 3 ∧ chkN p.nd = 0 := by
  unfold chkP at h
  split at h
  · cases h
  · rename_i h1
    split at h
    · cases h
    · rename_i h2
      split at h
      · rename_i h3; exact absurd h h3
      · rename_i h3
        unfold chkNd at h
        split at h
        · cases h
        · rename_i h4
          split at h
          · rename_i h5; exact absurd h h5
          · rename_i h5
            exact ⟨by simpa using h1, by omega, Decidable.of_not_not h3, Decidable.of_not_not h4, Decidable.of_not_not h5⟩

section
variable (s : UInt8)
theorem gidx_at : ∀ (x r : List UInt8), (∀ c ∈ x, c ≠ s) → Go.Lib.index (x ++ s :: r) [s] = x.length
  | [], r, _ => by simp [Go.Lib.index, List.isPrefixOf]
  | c :: x, r, h => by
    have hc := h c (by simp)
    have ih := gidx_at x r (fun d hd => h d (by simp [hd]))
    rw [List.cons_append, Go.Lib.index, if_neg (by simp [List.isPrefixOf, Ne.symm hc]), ih, if_neg (by simp)]
    simp
theorem gidx_none : ∀ x : List UInt8, (∀ c ∈ x, c ≠ s) → Go.Lib.index x [s] = -1
  | [], _ => by simp [Go.Lib.index]
  | c :: x, h => by
    have hc := h c (by simp)
    rw [Go.Lib.index, if_neg (by simp [List.isPrefixOf, Ne.symm hc]), gidx_none x (fun d hd => h d (by simp [hd]))]
    rfl
theorem gidx_cases : ∀ l : List UInt8, (∀ c ∈ l, c ≠ s) ∨ ∃ x r, l = x ++ s :: r ∧ ∀ c ∈ x, c ≠ s
  | [] => Or.inl (by simp)
  | c :: l => by
    by_cases hc : c = s
    · exact Or.inr ⟨[], l, by rw [hc]; rfl, by simp⟩
    · rcases gidx_cases l with h | ⟨x, r, e, h⟩
      · refine Or.inl fun d hd => ?_
        rcases List.mem_cons.1 hd with rfl | hd
        · exact hc
        · exact h d hd
      · refine Or.inr ⟨c :: x, r, by rw [e]; rfl, fun d hd => ?_⟩
        rcases List.mem_cons.1 hd with rfl | hd
        · exact hc
        · exact h d hd
theorem gjn_cons (x y : Word) (r : List Word) : Go.Lib.join (x :: y :: r) [s] = x ++ s :: Go.Lib.join (y :: r) [s] := by
  simp [Go.Lib.join, List.intercalate, List.intersperse]
theorem gsplitK_at (k : Nat) (x r : List UInt8) (h : ∀ c ∈ x, c ≠ s) : Go.Lib.splitK [s] 0 (k + 1) (x ++ s :: r) = x :: Go.Lib.splitK [s] 0 k r := by
  rw [Go.Lib.splitK, gidx_at s x r h, if_neg (by simp)]
  simp
theorem gsplitK_none (k : Nat) (x : List UInt8) (h : ∀ c ∈ x, c ≠ s) : Go.Lib.splitK [s] 0 k x = [x] := by
  cases k with
  | zero => rfl
  | succ k => rw [Go.Lib.splitK, gidx_none s x h, if_pos (by decide)]
theorem gsplitK_pos (k : Nat) (l : List UInt8) : ∃ x r, Go.Lib.splitK [s] 0 k l = x :: r := by
  cases k with
  | zero => exact ⟨_, _, rfl⟩
  | succ k => rw [Go.Lib.splitK]; split <;> exact ⟨_, _, rfl⟩
theorem gsplit_join : ∀ (ws : List Word), ws ≠ [] → (∀ x ∈ ws, ∀ c ∈ x, c ≠ s) → Go.Lib.split (Go.Lib.join ws [s]) [s] = ws
  | [], h, _ => absurd rfl h
  | [x], _, h => by
    rw [Go.Lib.join_one]; unfold Go.Lib.split
    exact gsplitK_none s _ x (h x (by simp))
  | x :: y :: r, _, h => by
    have hx := h x (by simp)
    have ih := gsplit_join (y :: r) (by simp) (fun z hz => h z (by simp at hz ⊢; exact Or.inr hz))
    rw [gjn_cons]
    unfold Go.Lib.split at ih ⊢
    rw [Go.Lib.count_hit (i := x.length) (by simp) (gidx_at s x _ hx), Nat.add_comm, gsplitK_at s _ _ _ hx]
    have e : List.drop (x.length + [s].length) (x ++ s :: Go.Lib.join (y :: r) [s]) = Go.Lib.join (y :: r) [s] := by
      rw [show x ++ s :: Go.Lib.join (y :: r) [s] = (x ++ [s]) ++ Go.Lib.join (y :: r) [s] by simp]
      rw [show x.length + [s].length = (x ++ [s]).length by simp]
      exact List.drop_left
    rw [e, ih]
theorem gjoin_splitK : ∀ (k : Nat) (l : List UInt8), Go.Lib.join (Go.Lib.splitK [s] 0 k l) [s] = l
  | 0, l => Go.Lib.join_one l _
  | k + 1, l => by
    rcases gidx_cases s l with h | ⟨x, r, rfl, h⟩
    · rw [gsplitK_none s _ _ h, Go.Lib.join_one]
    · rw [gsplitK_at s k x r h]
      obtain ⟨y, r', e⟩ := gsplitK_pos s k r
      have ih := gjoin_splitK k r
      rw [e] at ih ⊢
      rw [gjn_cons, ih]
theorem gcut_at (x r : List UInt8) (h : ∀ c ∈ x, c ≠ s) : Go.Lib.cut (x ++ s :: r) [s] = (x, r, true) := by
  unfold Go.Lib.cut
  rw [gidx_at s x r h, if_pos (by omega)]
  have e : x ++ s :: r = (x ++ [s]) ++ r := by simp
  simp only [Int.toNat_natCast, Prod.mk.injEq, and_true]
  refine ⟨by simp, ?_⟩
  rw [e, show x.length + [s].length = (x ++ [s]).length by simp]
  exact List.drop_left
theorem gcut_none (x : List UInt8) (h : ∀ c ∈ x, c ≠ s) : Go.Lib.cut x [s] = (x, [], false) := by
  unfold Go.Lib.cut
  rw [gidx_none s x h, if_neg (by omega)]
theorem gcut_back {l x r : List UInt8} (h : Go.Lib.cut l [s] = (x, r, true)) : l = x ++ s :: r ∧ ∀ c ∈ x, c ≠ s := by
  rcases gidx_cases s l with h0 | ⟨x', r', rfl, h0⟩
  · rw [gcut_none s l h0] at h; simp at h
  · rw [gcut_at s x' r' h0] at h
    simp at h
    obtain ⟨rfl, rfl⟩ := h
    exact ⟨rfl, h0⟩
end

/-- A package's line, without its end. -/
def lineL (p : PK) : List UInt8 := Lib.join [p.n.data.toList, Lib.itoa p.v, Lib.itoa p.sl, Lib.join (p.fl.map (·.data.toList)) [44], p.nd.text] [32]
def textT : List PK → List UInt8
  | [] => []
  | p :: ps => lineL p ++ 10 :: textT ps
def flagsW (wd : Word) : List ByteArray := if wd = [] then [] else (Lib.split wd [44]).map fun x => ⟨x.toArray⟩
def wordsE : List Word → Int
  | [_, b, c, _, n] => if numB b = false ∨ numB c = false then 1 else rdE n
  | _ => 1
def wordsP : List Word → PK
  | [a, b, c, d, n] => ⟨⟨a.toArray⟩, numV b, numV c, flagsW d, (rdText n).getD NT.zero⟩
  | _ => PK.zero
def lineE (l : List UInt8) : Int := wordsE (Lib.splitN l [32] 5)
def lineP (l : List UInt8) : PK := wordsP (Lib.splitN l [32] 5)
/-- The lines of a text, one by one: the error, the line's number, the packages. -/
def rdLs : Nat → List UInt8 → Nat → List PK → Int × Nat × List PK
  | 0, _, k, acc => (0, k, acc)
  | m + 1, l, k, acc => if l = [] then (0, k, acc) else if (Lib.cut l [10]).2.2 = false then (1, k, []) else
    if lineE (Lib.cut l [10]).1 ≠ 0 then (lineE (Lib.cut l [10]).1, k, []) else rdLs m (Lib.cut l [10]).2.1 (k + 1) (acc ++ [lineP (Lib.cut l [10]).1])
def rdT (l : List UInt8) : Int × Nat × List PK :=
  if 20000 < l.length then (2, 0, []) else if (rdLs (l.length + 1) l 0 []).1 ≠ 0 then ((rdLs (l.length + 1) l 0 []).1, (rdLs (l.length + 1) l 0 []).2.1, []) else
    if chkT (rdLs (l.length + 1) l 0 []).2.2 ≠ 0 then (chkT (rdLs (l.length + 1) l 0 []).2.2, 0, []) else (0, 0, (rdLs (l.length + 1) l 0 []).2.2)

theorem itoa_num {i : Int} (h0 : 0 ≤ i) (h1 : i < 100) : numB (Lib.itoa i) = true ∧ numV (Lib.itoa i) = i := by
  obtain ⟨k, rfl⟩ : ∃ k : Nat, i = k := ⟨i.toNat, by omega⟩
  have e : Lib.itoa (k : Int) = Lib.decDigits k := by unfold Lib.itoa; simp
  rw [e]
  exact num_dig (by omega)
theorem itoa_no {i : Int} (h0 : 0 ≤ i) (h1 : i < 100) : ∀ c ∈ Lib.itoa i, c ≠ 32 ∧ c ≠ 10 := by
  intro c hc
  have := itoa_txt h0 h1 c hc
  refine ⟨(txt_ne this).1, ?_⟩
  rintro rfl
  revert this; decide
theorem name_no {l : List UInt8} (h : nameB l = true) : ∀ c ∈ l, c ≠ 32 ∧ c ≠ 10 ∧ c ≠ 44 := by
  intro c hc
  have := okB_txt (name_ok h c hc)
  refine ⟨(txt_ne this).1, ?_, ?_⟩ <;> (rintro rfl; revert this; decide)
theorem join_mem (s : UInt8) : ∀ (ws : List Word) (c : UInt8), c ∈ Lib.join ws [s] → c = s ∨ ∃ x ∈ ws, c ∈ x
  | [], c, h => by simp [Lib.join] at h
  | [x], c, h => by rw [Lib.join_one] at h; exact Or.inr ⟨x, by simp, h⟩
  | x :: y :: r, c, h => by
    rw [gjn_cons] at h
    rcases List.mem_append.1 h with h | h
    · exact Or.inr ⟨x, by simp, h⟩
    · rcases List.mem_cons.1 h with h | h
      · exact Or.inl h
      · rcases join_mem s (y :: r) c h with h | ⟨z, hz, hc⟩
        · exact Or.inl h
        · exact Or.inr ⟨z, by simp at hz ⊢; exact Or.inr hz, hc⟩
theorem joinF_no {fs : List ByteArray} (h : ∀ f ∈ fs, nameB f.data.toList = true) : ∀ c ∈ Lib.join (fs.map (·.data.toList)) [44], c ≠ 32 ∧ c ≠ 10 := by
  intro c hc
  rcases join_mem 44 _ c hc with rfl | ⟨x, hx, hcx⟩
  · decide
  · obtain ⟨f, hf, rfl⟩ := List.mem_map.1 hx
    have := name_no (h f hf) c hcx
    exact ⟨this.1, this.2.1⟩
theorem flags_backW {fs : List ByteArray} (h : ∀ f ∈ fs, nameB f.data.toList = true) : flagsW (Lib.join (fs.map (·.data.toList)) [44]) = fs := by
  unfold flagsW
  cases fs with
  | nil => simp [Lib.join]
  | cons f fs =>
    have hne : Lib.join ((f :: fs).map (·.data.toList)) [44] ≠ [] := by
      have hp := nameB_pos (h f (by simp))
      cases fs with
      | nil => rw [List.map_cons, List.map_nil, Lib.join_one]; exact hp
      | cons g fs => rw [List.map_cons, List.map_cons, gjn_cons]; simp
    rw [if_neg hne, gsplit_join 44 _ (by simp) (fun x hx c hc => by obtain ⟨f', hf', rfl⟩ := List.mem_map.1 hx; exact (name_no (h f' hf') c hc).2.2), List.map_map]
    conv => rhs; rw [← List.map_id (f :: fs)]
    apply List.map_congr_left
    intro x _
    exact bytes_back x
theorem txt_no10 {c : UInt8} (h : txtB c = true) : c ≠ 10 := by rintro rfl; revert h; decide
mutual
theorem words_no10' : ∀ (t : NT), t.ok → ∀ x ∈ t.words, ∀ c ∈ x, c ≠ 10
  | .node k a fl nt kids, hok, x, hx => by
    rw [NT.ok] at hok
    rw [NT.words] at hx
    have hend : ∀ l : List Word, x ∈ [40] :: (wordsL kids ++ [[41]]) → ∀ c ∈ x, c ≠ 10 := fun _ hx => by
      rcases List.mem_cons.1 hx with rfl | hx
      · decide
      · rcases List.mem_append.1 hx with hx | hx
        · exact wordsL_no10' kids hok.2 x hx
        · rw [List.mem_singleton.1 hx]; decide
    rcases nodeE_zero hok.1 with ⟨hk, rfl, rfl, rfl, ha⟩ | ⟨hk, rfl, rfl, rfl⟩ | ⟨rfl, rfl, hn⟩
    · have ht := text_txt ha
      rcases hk with rfl | rfl
      · rw [if_pos rfl] at hx
        rw [List.mem_singleton.1 hx]
        exact fun c hc => txt_no10 (ht c hc)
      · rw [if_neg (by decide), if_pos rfl] at hx
        rw [List.mem_singleton.1 hx]
        intro c hc
        rcases List.mem_cons.1 hc with rfl | hc
        · decide
        · exact txt_no10 (ht c hc)
    · rcases hk with rfl | rfl
      · rw [if_neg (by decide), if_neg (by decide), if_neg (by decide), if_neg (by decide)] at hx
        exact hend [] hx
      · rw [if_neg (by decide), if_neg (by decide), if_pos rfl] at hx
        rcases List.mem_append.1 hx with hx | hx
        · rw [List.mem_singleton.1 hx]; decide
        · exact hend [] hx
    · rw [if_neg (by decide), if_neg (by decide), if_neg (by decide), if_pos rfl] at hx
      rcases List.mem_append.1 hx with hx | hx
      · rw [List.mem_singleton.1 hx]
        intro c hc
        rcases List.mem_append.1 hc with hc | hc
        · split at hc
          · rw [List.mem_singleton.1 hc]; decide
          · cases hc
        · rcases List.mem_append.1 hc with hc | hc
          · exact (name_no hn c hc).2.1
          · rw [List.mem_singleton.1 hc]; decide
      · exact hend [] hx
theorem wordsL_no10' : ∀ (ts : List NT), okL ts → ∀ x ∈ wordsL ts, ∀ c ∈ x, c ≠ 10
  | [], _, x, hx => by rw [wordsL] at hx; cases hx
  | t :: ts, hok, x, hx => by
    rw [okL] at hok
    rw [wordsL] at hx
    rcases List.mem_append.1 hx with hx | hx
    · exact words_no10' t hok.1 x hx
    · exact wordsL_no10' ts hok.2 x hx
end
theorem words_no10 {t : NT} (h : t.ok) : ∀ c ∈ t.text, c ≠ 10 := by
  intro c hc
  rcases join_mem 32 _ c hc with rfl | ⟨x, hx, hcx⟩
  · decide
  · exact words_no10' t h x hx c hcx
theorem line_back {p : PK} (h : chkP p = 0) : lineE (lineL p) = 0 ∧ lineP (lineL p) = p ∧ ∀ c ∈ lineL p, c ≠ 10 := by
  obtain ⟨hn, ⟨hv1, hv2, hs1, hs2⟩, hf, _, hc⟩ := chkP_get h
  obtain ⟨_, hf⟩ := chkFs_get hf
  have hsm := (chkN_zero.1 hc)
  obtain ⟨iv1, iv2⟩ := itoa_num (i := p.v) (by omega) (by omega)
  obtain ⟨is1, is2⟩ := itoa_num (i := p.sl) (by omega) (by omega)
  obtain ⟨r1, r2⟩ := rdE_text hc
  have e1 : lineL p = p.n.data.toList ++ 32 :: (Lib.itoa p.v ++ 32 :: (Lib.itoa p.sl ++ 32 :: (Lib.join (p.fl.map (·.data.toList)) [44] ++ 32 :: p.nd.text))) := by
    unfold lineL
    rw [gjn_cons, gjn_cons, gjn_cons, gjn_cons, Lib.join_one]
  have e2 : Lib.splitN (lineL p) [32] 5 = [p.n.data.toList, Lib.itoa p.v, Lib.itoa p.sl, Lib.join (p.fl.map (·.data.toList)) [44], p.nd.text] := by
    unfold Lib.splitN
    rw [show min 5 ((lineL p).length + 1) - 1 = 4 by rw [e1]; simp; omega, e1]
    rw [gsplitK_at 32 3 _ _ (fun c hc => (name_no hn c hc).1), gsplitK_at 32 2 _ _ (fun c hc => (itoa_no (by omega) (by omega) c hc).1), gsplitK_at 32 1 _ _ (fun c hc => (itoa_no (by omega) (by omega) c hc).1), gsplitK_at 32 0 _ _ (fun c hc => (joinF_no hf c hc).1)]
    rfl
  refine ⟨?_, ?_, ?_⟩
  · unfold lineE
    rw [e2, wordsE, if_neg (by rw [iv1, is1]; simp)]
    exact r1
  · unfold lineP
    rw [e2, wordsP, iv2, is2, flags_backW hf, r2, bytes_back]
    rfl
  · rw [e1]
    intro c hc
    simp only [List.mem_append, List.mem_cons] at hc
    rcases hc with hc | rfl | hc | rfl | hc | rfl | hc | rfl | hc
    · exact (name_no hn c hc).2.1
    · decide
    · exact (itoa_no (by omega) (by omega) c hc).2
    · decide
    · exact (itoa_no (by omega) (by omega) c hc).2
    · decide
    · exact (joinF_no hf c hc).2
    · decide
    · exact words_no10 hsm.2 c hc
theorem rdLs_text : ∀ (ps : List PK) (m k : Nat) (acc : List PK), (∀ p ∈ ps, chkP p = 0) → (textT ps).length < m → rdLs m (textT ps) k acc = (0, k + ps.length, acc ++ ps)
  | [], 0, k, acc, _, h => absurd h (Nat.not_lt_zero _)
  | [], m + 1, k, acc, _, _ => by rw [rdLs, if_pos (show textT [] = [] from rfl)]; simp
  | p :: ps, 0, k, acc, _, h => absurd h (Nat.not_lt_zero _)
  | p :: ps, m + 1, k, acc, h, hm => by
    obtain ⟨b1, b2, b3⟩ := line_back (h p (by simp))
    have e : textT (p :: ps) = lineL p ++ 10 :: textT ps := rfl
    rw [rdLs, e, gcut_at 10 _ _ b3, if_neg (by simp), if_neg (by simp), if_neg (by simp [b1])]
    rw [e] at hm
    rw [rdLs_text ps m (k + 1) (acc ++ [lineP (lineL p)]) (fun q hq => h q (by simp [hq])) (by simp at hm; omega), b2]
    simp; omega
theorem rdT_text {ps : List PK} (h : chkT ps = 0) (hl : (textT ps).length ≤ 20000) : rdT (textT ps) = (0, 0, ps) := by
  have hp := (chkT_get h).2
  unfold rdT
  rw [if_neg (by omega), rdLs_text ps _ 0 [] hp (by omega), if_neg (by simp), if_neg (by simp [h])]
  simp
theorem line_forth {l : List UInt8} (h : lineE l = 0) : lineL (lineP l) = l := by
  unfold lineE at h
  unfold lineP
  have hj := gjoin_splitK 32 (min 5 (l.length + 1) - 1) l
  have e0 : Lib.splitK [32] 0 (min 5 (l.length + 1) - 1) l = Lib.splitN l [32] 5 := rfl
  rw [e0] at hj
  generalize Lib.splitN l [32] 5 = ws at h hj
  match ws, h, hj with
  | [a, b, c, d, n], h, hj =>
    rw [wordsE] at h
    split at h
    · cases h
    · rename_i hno
      have hb : numB b = true := by cases hb : numB b <;> simp_all
      have hc : numB c = true := by cases hc : numB c <;> simp_all
      obtain ⟨t, ht, _, htx⟩ := rdE_zero h
      rw [wordsP, ht]
      unfold lineL
      show Lib.join [a, Lib.itoa (numV b), Lib.itoa (numV c), Lib.join ((flagsW d).map (·.data.toList)) [44], t.text] [32] = l
      rw [num_itoa hb, num_itoa hc, htx]
      have hd : Lib.join ((flagsW d).map (·.data.toList)) [44] = d := by
        unfold flagsW
        split
        · rename_i hd; rw [hd]; rfl
        · rw [List.map_map]
          have : (Lib.split d [44]).map ((fun x : ByteArray => x.data.toList) ∘ fun x : List UInt8 => (⟨x.toArray⟩ : ByteArray)) = Lib.split d [44] := by
            conv => rhs; rw [← List.map_id (Lib.split d [44])]
            apply List.map_congr_left
            intro x _; rfl
          rw [this]
          exact gjoin_splitK 44 _ d
      rw [hd]; exact hj
  | [], h, _ => cases h
  | [_], h, _ => cases h
  | [_, _], h, _ => cases h
  | [_, _, _], h, _ => cases h
  | [_, _, _, _], h, _ => cases h
  | _ :: _ :: _ :: _ :: _ :: _ :: _, h, _ => cases h
theorem textT_app : ∀ a b : List PK, textT (a ++ b) = textT a ++ textT b
  | [], b => rfl
  | p :: a, b => by
    show lineL p ++ 10 :: textT (a ++ b) = (lineL p ++ 10 :: textT a) ++ textT b
    rw [textT_app a b]; simp
theorem rdLs_forth : ∀ (m : Nat) (l : List UInt8) (k : Nat) (acc : List PK), l.length < m → (rdLs m l k acc).1 = 0 → textT (rdLs m l k acc).2.2 = textT acc ++ l
  | 0, l, k, acc, hm, _ => absurd hm (Nat.not_lt_zero _)
  | m + 1, l, k, acc, hm, h => by
    rw [rdLs] at h ⊢
    split
    · rename_i hl; rw [hl]; simp
    · rename_i hl
      rw [if_neg hl] at h
      split
      · rename_i hc; rw [if_pos hc] at h; cases h
      · rename_i hc
        rw [if_neg hc] at h
        split
        · rename_i he; rw [if_pos he] at h; exact absurd h he
        · rename_i he
          rw [if_neg he] at h
          have hc' : (Lib.cut l [10]).2.2 = true := by simpa using hc
          obtain ⟨e1, _⟩ := gcut_back 10 (show Lib.cut l [10] = ((Lib.cut l [10]).1, (Lib.cut l [10]).2.1, true) by rw [← hc'])
          have hlen : (Lib.cut l [10]).2.1.length < m := by
            have := congrArg List.length e1
            simp at this; omega
          rw [rdLs_forth m _ _ _ hlen h, textT_app]
          show textT acc ++ (lineL (lineP (Lib.cut l [10]).1) ++ 10 :: textT []) ++ _ = _
          rw [line_forth (Decidable.of_not_not he)]
          conv => rhs; rw [e1]
          simp [textT]
theorem rdT_forth {l : List UInt8} (h : (rdT l).1 = 0) : chkT (rdT l).2.2 = 0 ∧ textT (rdT l).2.2 = l := by
  unfold rdT at h ⊢
  split
  · rename_i h1; rw [if_pos h1] at h; cases h
  · rename_i h1
    rw [if_neg h1] at h
    split
    · rename_i h2; rw [if_pos h2] at h; exact absurd h h2
    · rename_i h2
      rw [if_neg h2] at h
      split
      · rename_i h3; rw [if_pos h3] at h; exact absurd h h3
      · rename_i h3
        refine ⟨Decidable.of_not_not h3, ?_⟩
        have := rdLs_forth (l.length + 1) l 0 [] (by omega) (Decidable.of_not_not h2)
        simpa [textT] using this
end Go.Proofs.YtkckkjpkidcbnaaGreatDoor
/- Rows of texts and rows of packages as they lie in memory. -/
namespace Go.Proofs.YtkckkjpkidcbnaaGreatDoor
open Go.RowKit

/-- The value leads to a row of these texts, in blocks of S. -/
def StrsIs (S : Nat → Prop) (w : World) (fs : List ByteArray) (v : Value) : Prop :=
  (fs = [] ∧ ∃ p cap, v = .slice p 0 cap) ∨ ∃ (b off cap : Nat), v = .slice (some ⟨b, off, none⟩) fs.length cap ∧ (S b ∧ fs.length ≤ cap) ∧ fs.length ≤ 9223372036854775807 ∧ ∀ (j : Nat) (x : ByteArray), fs[j]? = some x → w.cell? ⟨b, off + j, none⟩ = some (.string x)
/-- These fourteen cells say the package. -/
def PkgIs (S : Nat → Prop) (w : World) (p : PK) (cs : List Value) : Prop :=
  ∃ (fv : Value) (nv : List Value), cs = .string p.n :: .int .i64 p.v :: .int .i64 p.sl :: fv :: nv ∧ StrsIs S w p.fl fv ∧ NeedIs S w p.nd nv
/-- The value leads to a row of these packages. -/
def PkgsIs (S : Nat → Prop) (w : World) (ps : List PK) (v : Value) : Prop :=
  (ps = [] ∧ ∃ p cap, v = .slice p 0 cap) ∨ ∃ (b off cap : Nat), v = .slice (some ⟨b, off, none⟩) ps.length cap ∧ S b ∧ ps.length ≤ 9223372036854775807 ∧
    ∀ (j : Nat) (h : j < ps.length), ∃ cs : List Value, (∀ (m : Nat) (x : Value), cs[m]? = some x → w.cell? ⟨b, off + j * 14 + m, none⟩ = some x) ∧ PkgIs S w ps[j] cs
theorem StrsIs.mono {S S' : Nat → Prop} {w w' : World} (hw : ∀ p : Addr, S p.block → w'.cell? p = w.cell? p) (hS : ∀ b, S b → S' b) {fs : List ByteArray} {v : Value} (h : StrsIs S w fs v) : StrsIs S' w' fs v := by
  rcases h with h | ⟨b, off, cap, h1, h2, h3, h4⟩
  · exact Or.inl h
  · exact Or.inr ⟨b, off, cap, h1, ⟨hS _ h2.1, h2.2⟩, h3, fun j x hx => (hw _ h2.1).trans (h4 j x hx)⟩
theorem PkgIs.mono {S S' : Nat → Prop} {w w' : World} (hw : ∀ p : Addr, S p.block → w'.cell? p = w.cell? p) (hS : ∀ b, S b → S' b) {p : PK} {cs : List Value} (h : PkgIs S w p cs) : PkgIs S' w' p cs := by
  obtain ⟨fv, nv, h1, h2, h3⟩ := h
  exact ⟨fv, nv, h1, h2.mono hw hS, NeedIs.mono hw hS _ _ h3⟩
theorem PkgsIs.mono {S S' : Nat → Prop} {w w' : World} (hw : ∀ p : Addr, S p.block → w'.cell? p = w.cell? p) (hS : ∀ b, S b → S' b) {ps : List PK} {v : Value} (h : PkgsIs S w ps v) : PkgsIs S' w' ps v := by
  rcases h with h | ⟨b, off, cap, h1, h2, h3, h4⟩
  · exact Or.inl h
  · refine Or.inr ⟨b, off, cap, h1, hS _ h2, h3, fun j hj => ?_⟩
    obtain ⟨cs, h5, h6⟩ := h4 j hj
    exact ⟨cs, fun m x hx => (hw _ h2).trans (h5 m x hx), h6.mono hw hS⟩
theorem below_cells {S : Nat → Prop} {B : Nat} {w w' : World} (hS : ∀ b, S b → b < B) (k : Below B w w') : ∀ p : Addr, S p.block → w'.cell? p = w.cell? p :=
  fun p hp => k.cell (p := p) (hS _ hp)
theorem StrsIs.keep {S : Nat → Prop} {B : Nat} {w w' : World} (hS : ∀ b, S b → b < B) (k : Below B w w') {fs : List ByteArray} {v : Value} (h : StrsIs S w fs v) : StrsIs S w' fs v := h.mono (below_cells hS k) fun _ h => h
theorem PkgIs.keep {S : Nat → Prop} {B : Nat} {w w' : World} (hS : ∀ b, S b → b < B) (k : Below B w w') {p : PK} {cs : List Value} (h : PkgIs S w p cs) : PkgIs S w' p cs := h.mono (below_cells hS k) fun _ h => h
theorem PkgsIs.keep {S : Nat → Prop} {B : Nat} {w w' : World} (hS : ∀ b, S b → b < B) (k : Below B w w') {ps : List PK} {v : Value} (h : PkgsIs S w ps v) : PkgsIs S w' ps v := h.mono (below_cells hS k) fun _ h => h
theorem StrsIs.len {S : Nat → Prop} {w : World} {fs : List ByteArray} {v : Value} (h : StrsIs S w fs v) : ∃ p cap, v = .slice p fs.length cap ∧ fs.length ≤ 9223372036854775807 := by
  rcases h with ⟨rfl, p, cap, h⟩ | ⟨b, off, cap, h1, _, h3, _⟩
  · exact ⟨p, cap, h, by simp⟩
  · exact ⟨_, cap, h1, h3⟩
theorem PkgsIs.len {S : Nat → Prop} {w : World} {ps : List PK} {v : Value} (h : PkgsIs S w ps v) : ∃ p cap, v = .slice p ps.length cap ∧ ps.length ≤ 9223372036854775807 := by
  rcases h with ⟨rfl, p, cap, h⟩ | ⟨b, off, cap, h1, _, h3, _⟩
  · exact ⟨p, cap, h, by simp⟩
  · exact ⟨_, cap, h1, h3⟩
theorem StrsIs.get {S : Nat → Prop} {w : World} {fs : List ByteArray} {v : Value} (h : StrsIs S w fs v) {j : Nat} (hj : j < fs.length) :
    ∃ (b off cap : Nat), v = .slice (some ⟨b, off, none⟩) fs.length cap ∧ S b ∧ fs.length ≤ 9223372036854775807 ∧ ∀ (j : Nat) (x : ByteArray), fs[j]? = some x → w.cell? ⟨b, off + j, none⟩ = some (.string x) := by
  rcases h with ⟨rfl, _⟩ | ⟨b, off, cap, h1, h2, h3, h4⟩
  · exact absurd hj (Nat.not_lt_zero _)
  · exact ⟨b, off, cap, h1, h2.1, h3, h4⟩
theorem StrsIs.row {S : Nat → Prop} {w : World} {fs : List ByteArray} {v : Value} (h : StrsIs S w fs v) (hj : 0 < fs.length) :
    ∃ (b off cap : Nat), v = .slice (some ⟨b, off, none⟩) fs.length cap ∧ S b ∧ fs.length ≤ cap ∧ ∀ (j : Nat) (x : ByteArray), fs[j]? = some x → w.cell? ⟨b, off + j, none⟩ = some (.string x) := by
  rcases h with ⟨rfl, _⟩ | ⟨b, off, cap, h1, h2, h3, h4⟩
  · exact absurd hj (Nat.not_lt_zero _)
  · exact ⟨b, off, cap, h1, h2.1, h2.2, h4⟩
theorem PkgsIs.get {S : Nat → Prop} {w : World} {ps : List PK} {v : Value} (h : PkgsIs S w ps v) {j : Nat} (hj : j < ps.length) :
    ∃ (b off cap : Nat), v = .slice (some ⟨b, off, none⟩) ps.length cap ∧ S b ∧ ps.length ≤ 9223372036854775807 ∧
    ∀ (j : Nat) (h : j < ps.length), ∃ cs : List Value, (∀ (m : Nat) (x : Value), cs[m]? = some x → w.cell? ⟨b, off + j * 14 + m, none⟩ = some x) ∧ PkgIs S w ps[j] cs := by
  rcases h with ⟨rfl, _⟩ | h
  · exact absurd hj (Nat.not_lt_zero _)
  · exact h
theorem getD_ba (zs : List ByteArray) (j : Nat) (h : j < zs.length) : zs.getD j ByteArray.empty = zs[j] := by
  rw [List.getD_eq_getElem?_getD, List.getElem?_eq_getElem h, Option.getD_some]
theorem StrsIs.getD {w : World} {fs : List ByteArray} {b off : Nat} (h : ∀ (j : Nat) (x : ByteArray), fs[j]? = some x → w.cell? ⟨b, off + j, none⟩ = some (.string x)) : ∀ j, j < fs.length → w.cell? ⟨b, off + j, none⟩ = some (.string (fs.getD j ByteArray.empty)) :=
  fun j hj => by rw [getD_ba fs j hj]; exact h j _ (List.getElem?_eq_getElem hj)
end Go.Proofs.YtkckkjpkidcbnaaGreatDoor
/- tree.oneByOne asks one thing after another and answers with the first error, whatever function is handed to it that keeps to a plain one; tree.checkFlags answers as the plain function chkFs says. -/
namespace Go.Proofs.YtkckkjpkidcbnaaGreatDoor
open Go.RowKit

set_option maxHeartbeats 2000000 in
set_option maxRecDepth 100000 in
theorem oneByOne_any {F : Nat} {cap : Array Value} (n : Nat) (f : Nat → Int) (Inv : Nat → World → Prop) (c : Nat) (hn : n ≤ 9223372036854775807)
    (hF : ∀ args w, (callFunc F args).run Tryz.prog w = .ok (.enter F args) w)
    (hc : ∀ k w, k < n → Inv k w → Calls Tryz.prog F (#[.int .i64 k] ++ cap) w fun e w' => e = .returned (.int .i64 (f k)) ∧ (f k = 0 → Inv (k + 1) w') ∧ Apart (One c) w w') (w : World) (h0 : Inv 0 w) :
    Calls Tryz.prog 86 #[.int .i64 n, .func (.func F) #[] cap] w fun e w' => e = .returned (.int .i64 (firstE f 0 n)) ∧ Apart (One c) w w' := by
  have HC := hid hc
  have HI := hid h0
  clear hc h0
  go_enter Tryz.func86, Tryz.ntmps86
  go_wp2_with fail
  go_loopg [8] n (fun gk i wr => ∃ j : Nat, j + gk = n ∧ i = .int .i64 j ∧ Inv j wr ∧ firstE f 0 n = firstE f j (n - j) ∧ Apart (One c) w wr)
  case atStart => exact ⟨0, by simp, rfl, HI.out, rfl, Apart.refl _ _⟩
  case round =>
    obtain ⟨j, hj, rfl, hi, he, ha⟩ := hrel
    have HEQ := hid he
    have HA := hid ha
    clear he ha HI
    by_cases hlt : j < n
    · have HCALL := hid (HC.out j wr hlt hi)
      have HST := hid (firstE_step (f := f) hlt)
      clear hi
      go_wp2_with fail
      refine HCALL.out.mono ?_
      rintro e w1 ⟨rfl, hi1, ha1⟩
      have HI1 := hid hi1
      have HA1 := hid (HA.out.trans ha1)
      clear hi1 ha1 HCALL
      by_cases hz : f j = 0
      · have HZ := hid hz
        have hz1 : (f j == 0) = true := by simp [hz]
        have hz2 : (f j != 0) = false := by simp [hz]
        clear hz
        go_wp2_with fail
        go_roundg (n - (j + 1))
        case rel => exact ⟨j + 1, by omega, by go_num, HI1.out HZ.out, by rw [HEQ.out, HST.out, if_pos HZ.out], HA1.out⟩
        case measure => omega
      · have HZ := hid hz
        have hz1 : (f j == 0) = false := by simp [hz]
        have hz2 : (f j != 0) = true := by simp [hz]
        clear hz
        go_wp2_with fail
        go_ret
        exact ⟨ret_int (by rw [HEQ.out, HST.out, if_neg HZ.out]), HA1.out⟩
    · go_wp2_with fail
      go_ret
      exact ⟨ret_int (by rw [HEQ.out, show n - j = 0 by omega]; rfl), HA.out⟩

set_option maxHeartbeats 2000000 in
set_option maxRecDepth 100000 in
theorem flag1_any (S : Nat → Prop) (fs : List ByteArray) (c k : Nat) (v : Value) (w : World) (hk : k < fs.length) (hv : VarAt c 32 v w) (hs : StrsIs S w fs v) :
    Calls Tryz.prog 198 #[.int .i64 k, .pointer (some ⟨c, 0, none⟩)] w fun e w' => e = .returned (.int .i64 (flE fs k)) ∧ Keep w w' := by
  obtain ⟨b, off, cap, rfl, hb, hlen, hcell⟩ := hs.get hk
  obtain ⟨hc0, -, hcl⟩ := hv.facts
  have hck := hcell k _ (List.getElem?_eq_getElem hk)
  have HFL : Hid (flE fs k = if nameB fs[k].data.toList = false then 1 else if 0 < k ∧ leS fs[k] (fs.getD (k - 1) ⟨#[]⟩) = true then 6 else 0) := by
    show _ = _
    unfold flE
    rw [List.getD_eq_getElem?_getD, List.getElem?_eq_getElem hk, Option.getD_some]
  have hck1 : 0 < k → ∃ x : ByteArray, Hid (fs.getD (k - 1) ⟨#[]⟩ = x) ∧ w.cell? ⟨b, off + (k - 1), none⟩ = some (.string x) := fun h0 =>
    ⟨fs[k - 1], by show _ = _; rw [List.getD_eq_getElem?_getD, List.getElem?_eq_getElem (by omega), Option.getD_some], hcell (k - 1) _ (List.getElem?_eq_getElem (by omega))⟩
  clear hcell hs hv
  generalize fs[k] = x at hck HFL
  go_enter Tryz.func198, Tryz.ntmps198
  go_wp2_with fail
  refine (name_any x w).mono ?_
  rintro e w1 ⟨rfl, hw⟩
  subst hw
  cases hnm : nameB x.data.toList
  · rw [hnm] at HFL
    go_wp2_with fail
    go_ret
    exact ⟨ret_int (by rw [HFL.out]; rfl), Keep.refl _⟩
  · rw [hnm] at HFL
    by_cases h0 : 0 < k
    · obtain ⟨y, HY, hcy⟩ := hck1 h0
      rw [HY.out] at HFL
      obtain ⟨m, rfl⟩ : ∃ m, k = m + 1 := ⟨k - 1, by omega⟩
      have h0' : (0 : Int) < ((m + 1 : Nat) : Int) := by omega
      have hd : decide ((0 : Int) < ((m + 1 : Nat) : Int)) = true := decide_eq_true h0'
      have hcy' : w1.cell? ⟨b, off + m, none⟩ = some (.string y) := hcy
      have e1 : ((m + 1 : Nat) : Int) - 1 = (m : Int) := by omega
      have hm : m < fs.length := by omega
      clear hck1 HY hcy
      go_wp2_with fail
      go_quiet (fail)
      cases hle : leS x y
      · have HX : Hid (flE fs (m + 1) = 0) := by show _ = _; rw [HFL.out, hle]; simp
        have hle' : (Op.bytesLess x.toList y.toList || x.toList == y.toList) = false := hle
        rw [hle']
        clear hle hle' HFL
        go_wp2_with fail
        go_ret
        exact ⟨ret_int HX.out.symm, Keep.drewN (Keep.refl _) _⟩
      · have HX : Hid (flE fs (m + 1) = 6) := by show _ = _; rw [HFL.out, hle]; simp
        have hle' : (Op.bytesLess x.toList y.toList || x.toList == y.toList) = true := hle
        rw [hle']
        clear hle hle' HFL
        go_wp2_with fail
        go_ret
        exact ⟨ret_int HX.out.symm, Keep.drewN (Keep.refl _) _⟩
    · have hd : decide ((0 : Int) < (k : Int)) = false := decide_eq_false (by omega)
      have HX : Hid (flE fs k = 0) := by show _ = _; rw [HFL.out]; simp [h0]
      clear HFL hck1
      go_wp2_with fail
      go_quiet (fail)
      go_wp2_with fail
      go_ret
      exact ⟨ret_int HX.out.symm, Keep.drewN (Keep.refl _) _⟩

theorem enter_flag1 (args : Array Value) (w : World) : (callFunc 198 args).run Tryz.prog w = .ok (.enter 198 args) w := enters_of Tryz.func198 (by kernel_rfl) rfl args w

set_option maxHeartbeats 2000000 in
set_option maxRecDepth 100000 in
theorem flags_any (S : Nat → Prop) (fs : List ByteArray) (v : Value) (w : World) (hS : ∀ b, S b → b < w.heap.size) (hs : StrsIs S w fs v) :
    Calls Tryz.prog 144 #[v] w fun e w' => e = .returned (.int .i64 (chkFs fs)) ∧ Keep w w' := by
  have HS := hid hs
  obtain ⟨p, cap, rfl, hlen⟩ := hs.len
  have hmf : ∀ (fn : Fn) (first cap : Array Value) (w : World), (Instr.makeFunc fn first cap).run Tryz.prog w = .ok (.func fn first cap) w := fun _ _ _ _ => rfl
  have hent := enter_flag1
  have k0 := hid (Keep.alloc w (.cells #[.slice p fs.length cap] 32))
  have v0 := hid (VarAt.new w 32 (.slice p fs.length cap))
  clear hs
  by_cases h2 : 2 < fs.length
  · have h2' : (2 : Int) < (fs.length : Int) := by omega
    have HX : Hid (chkFs fs = 2) := by show _ = _; unfold chkFs; rw [if_pos h2]
    go_enter Tryz.func144, Tryz.ntmps144
    go_wp2_with fail
    go_ret
    exact ⟨ret_int HX.out.symm, k0.out⟩
  · have h2' : ¬ (2 : Int) < (fs.length : Int) := by omega
    have HX : Hid (chkFs fs = firstE (flE fs) 0 fs.length) := by show _ = _; unfold chkFs; rw [if_neg h2]
    have hcall : ∀ (k : Nat) (W' : World), k < fs.length → Keep w W' ∧ VarAt w.heap.size 32 (.slice p fs.length cap) W' → Calls Tryz.prog 198 (#[.int .i64 k] ++ #[.pointer (some ⟨w.heap.size, 0, none⟩)]) W' fun e w' => e = .returned (.int .i64 (flE fs k)) ∧ (flE fs k = 0 → Keep w w' ∧ VarAt w.heap.size 32 (.slice p fs.length cap) w') ∧ Apart (One w.heap.size) W' w' := by
      rintro k W' hk ⟨h1, h3⟩
      have c := flag1_any S fs w.heap.size k _ W' hk h3 (HS.out.keep hS h1)
      refine Calls.mono c ?_
      rintro e w' ⟨rfl, h4⟩
      exact ⟨rfl, fun _ => ⟨Below.trans h1 (h4.mono h1.size), h3.keep h4 h3.facts.2.2⟩, one_keep h4⟩
    have hone := hid (fun W h => oneByOne_any fs.length (flE fs) (fun _ W' => Keep w W' ∧ VarAt w.heap.size 32 (.slice p fs.length cap) W') w.heap.size hlen enter_flag1 hcall W h)
    clear hcall
    clear h2
    go_enter Tryz.func144, Tryz.ntmps144
    go_wp2_with fail
    refine (hone.out _ ⟨k0.out, v0.out⟩).mono ?_
    rintro e w1 ⟨rfl, ha1⟩
    have K1 : Hid (Keep w w1) := Below.trans k0.out (ha1.below k0.out.size fun b hb e => by have : b = w.heap.size := e; omega)
    clear ha1 hone k0 v0
    go_wp2_with fail
    go_ret
    exact ⟨ret_int HX.out.symm, K1.out⟩
end Go.Proofs.YtkckkjpkidcbnaaGreatDoor
