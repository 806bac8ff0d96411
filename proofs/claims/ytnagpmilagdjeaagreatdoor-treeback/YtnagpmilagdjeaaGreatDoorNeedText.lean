/- Words with a blank between each two: what is joined is parted, and what is parted is joined, as it was; a need's text is read as that need. -/
import Derived.Test.YtnagpmilagdjeaaGreatDoorNeedMath
import Derived.Lib.SplitLaws
namespace Go.Proofs.YtnagpmilagdjeaaGreatDoor

theorem idx_at : ∀ (x r : List UInt8), (∀ c ∈ x, c ≠ 32) → Go.Lib.index (x ++ 32 :: r) [32] = x.length
  | [], r, _ => by simp [Go.Lib.index, List.isPrefixOf]
  | c :: x, r, h => by
    have hc := h c (by simp)
    have ih := idx_at x r (fun d hd => h d (by simp [hd]))
    rw [List.cons_append, Go.Lib.index, if_neg (by simp [List.isPrefixOf, Ne.symm hc]), ih, if_neg (by simp)]
    simp
theorem idx_none : ∀ x : List UInt8, (∀ c ∈ x, c ≠ 32) → Go.Lib.index x [32] = -1
  | [], _ => by simp [Go.Lib.index]
  | c :: x, h => by
    have hc := h c (by simp)
    rw [Go.Lib.index, if_neg (by simp [List.isPrefixOf, Ne.symm hc]), idx_none x (fun d hd => h d (by simp [hd]))]
    rfl
theorem idx_cases : ∀ l : List UInt8, (∀ c ∈ l, c ≠ 32) ∨ ∃ x r, l = x ++ 32 :: r ∧ ∀ c ∈ x, c ≠ 32
  | [] => Or.inl (by simp)
  | c :: l => by
    by_cases hc : c = 32
    · exact Or.inr ⟨[], l, by rw [hc]; rfl, by simp⟩
    · rcases idx_cases l with h | ⟨x, r, e, h⟩
      · refine Or.inl fun d hd => ?_
        rcases List.mem_cons.1 hd with rfl | hd
        · exact hc
        · exact h d hd
      · refine Or.inr ⟨c :: x, r, by rw [e]; rfl, fun d hd => ?_⟩
        rcases List.mem_cons.1 hd with rfl | hd
        · exact hc
        · exact h d hd
theorem jn_one (x : Word) : Go.Lib.join [x] [32] = x := Go.Lib.join_one x _
theorem jn_cons (x y : Word) (r : List Word) : Go.Lib.join (x :: y :: r) [32] = x ++ 32 :: Go.Lib.join (y :: r) [32] := by
  simp [Go.Lib.join, List.intercalate, List.intersperse]
theorem splitK_at (k : Nat) (x r : List UInt8) (h : ∀ c ∈ x, c ≠ 32) : Go.Lib.splitK [32] 0 (k + 1) (x ++ 32 :: r) = x :: Go.Lib.splitK [32] 0 k r := by
  rw [Go.Lib.splitK, idx_at x r h, if_neg (by simp)]
  simp
theorem splitK_none (k : Nat) (x : List UInt8) (h : ∀ c ∈ x, c ≠ 32) : Go.Lib.splitK [32] 0 k x = [x] := by
  cases k with
  | zero => rfl
  | succ k => rw [Go.Lib.splitK, idx_none x h, if_pos (by decide)]
theorem splitK_pos (k : Nat) (l : List UInt8) : ∃ x r, Go.Lib.splitK [32] 0 k l = x :: r := by
  cases k with
  | zero => exact ⟨_, _, rfl⟩
  | succ k => rw [Go.Lib.splitK]; split <;> exact ⟨_, _, rfl⟩
theorem split_join : ∀ (ws : List Word), ws ≠ [] → (∀ x ∈ ws, ∀ c ∈ x, c ≠ 32) → Go.Lib.split (Go.Lib.join ws [32]) [32] = ws
  | [], h, _ => absurd rfl h
  | [x], _, h => by
    rw [jn_one]; unfold Go.Lib.split
    exact splitK_none _ x (h x (by simp))
  | x :: y :: r, _, h => by
    have hx := h x (by simp)
    have ih := split_join (y :: r) (by simp) (fun z hz => h z (by simp at hz ⊢; exact Or.inr hz))
    rw [jn_cons]
    unfold Go.Lib.split at ih ⊢
    rw [Go.Lib.count_hit (i := x.length) (by simp) (idx_at x _ hx), Nat.add_comm, splitK_at _ _ _ hx]
    have e : List.drop (x.length + [(32 : UInt8)].length) (x ++ 32 :: Go.Lib.join (y :: r) [32]) = Go.Lib.join (y :: r) [32] := by
      rw [show x ++ 32 :: Go.Lib.join (y :: r) [32] = (x ++ [32]) ++ Go.Lib.join (y :: r) [32] by simp]
      rw [show x.length + [(32 : UInt8)].length = (x ++ [32]).length by simp]
      exact List.drop_left
    rw [e, ih]
theorem join_splitK : ∀ (k : Nat) (l : List UInt8), Go.Lib.join (Go.Lib.splitK [32] 0 k l) [32] = l
  | 0, l => jn_one l
  | k + 1, l => by
    rcases idx_cases l with h | ⟨x, r, rfl, h⟩
    · rw [splitK_none _ _ h, jn_one]
    · rw [splitK_at k x r h]
      obtain ⟨y, r', e⟩ := splitK_pos k r
      have ih := join_splitK k r
      rw [e] at ih ⊢
      rw [jn_cons, ih]
theorem join_split (l : List UInt8) : Go.Lib.join (Go.Lib.split l [32]) [32] = l := join_splitK _ l

theorem name_no32 {l : List UInt8} (h : nameB l = true) : ∀ c ∈ l, c ≠ 32 := fun c hc => (txt_ne (okB_txt (name_ok h c hc))).1
mutual
theorem words_no32 : ∀ (t : NT), t.ok → ∀ x ∈ t.words, ∀ c ∈ x, c ≠ 32
  | .node k a fl nt kids, hok, x, hx => by
    rw [NT.ok] at hok
    rw [NT.words] at hx
    have hend : ∀ l : List Word, x ∈ [40] :: (wordsL kids ++ [[41]]) → ∀ c ∈ x, c ≠ 32 := fun _ hx => by
      rcases List.mem_cons.1 hx with rfl | hx
      · decide
      · rcases List.mem_append.1 hx with hx | hx
        · exact wordsL_no32 kids hok.2 x hx
        · rw [List.mem_singleton.1 hx]; decide
    rcases nodeE_zero hok.1 with ⟨hk, rfl, rfl, rfl, ha⟩ | ⟨hk, rfl, rfl, rfl⟩ | ⟨rfl, rfl, hn⟩
    · have ht := text_txt ha
      rcases hk with rfl | rfl
      · rw [if_pos rfl] at hx
        rw [List.mem_singleton.1 hx]
        exact fun c hc => (txt_ne (ht c hc)).1
      · rw [if_neg (by decide), if_pos rfl] at hx
        rw [List.mem_singleton.1 hx]
        intro c hc
        rcases List.mem_cons.1 hc with rfl | hc
        · decide
        · exact (txt_ne (ht c hc)).1
    · rcases hk with rfl | rfl
      · rw [if_neg (by decide), if_neg (by decide), if_neg (by decide), if_neg (by decide)] at hx
        exact hend [] hx
      · rw [if_neg (by decide), if_neg (by decide), if_pos rfl] at hx
        rcases List.mem_append.1 hx with hx | hx
        · rw [List.mem_singleton.1 hx]; decide
        · exact hend [] hx
    · rw [if_neg (by decide), if_neg (by decide), if_neg (by decide), if_pos rfl] at hx
      rcases List.mem_append.1 hx with hx | hx
      · rw [List.mem_singleton.1 hx]
        intro c hc
        rcases List.mem_append.1 hc with hc | hc
        · split at hc
          · rw [List.mem_singleton.1 hc]; decide
          · cases hc
        · rcases List.mem_append.1 hc with hc | hc
          · exact name_no32 hn c hc
          · rw [List.mem_singleton.1 hc]; decide
      · exact hend [] hx
theorem wordsL_no32 : ∀ (ts : List NT), okL ts → ∀ x ∈ wordsL ts, ∀ c ∈ x, c ≠ 32
  | [], _, x, hx => by rw [wordsL] at hx; cases hx
  | t :: ts, hok, x, hx => by
    rw [okL] at hok
    rw [wordsL] at hx
    rcases List.mem_append.1 hx with hx | hx
    · exact words_no32 t hok.1 x hx
    · exact wordsL_no32 ts hok.2 x hx
end

/-- A need's text. -/
def NT.text (t : NT) : List UInt8 := Go.Lib.join t.words [32]
/-- What a text is read as. -/
def rdWords : List Word → Option NT
  | [] => none
  | wd :: ws => match rdNeed 4 wd ws with
    | some (t, []) => some t
    | _ => none
def rdText (l : List UInt8) : Option NT := rdWords (Go.Lib.split l [32])
def rdE (l : List UInt8) : Int := if 20000 < l.length then 2 else match rdText l with
  | none => 1
  | some t => chkN t
theorem rdText_text {t : NT} (h : t.ok) (hh : t.ht ≤ 4) : rdText t.text = some t := by
  obtain ⟨wd, r, e, _, hr⟩ := rd_words t 4 [] h hh
  unfold rdText NT.text
  rw [split_join t.words (by rw [e]; simp) (words_no32 t h), e, rdWords]
  rw [List.append_nil] at hr
  rw [hr]
theorem text_rdText {l : List UInt8} {t : NT} (h : rdText l = some t) : t.text = l ∧ t.ok ∧ t.ht ≤ 4 := by
  unfold rdText at h
  cases e : Go.Lib.split l [32] with
  | nil => rw [e] at h; cases h
  | cons wd ws =>
    rw [e, rdWords] at h
    cases hr : rdNeed 4 wd ws with
    | none => rw [hr] at h; cases h
    | some p =>
      obtain ⟨u, rest⟩ := p
      rw [hr] at h
      cases rest with
      | cons _ _ => cases h
      | nil =>
        obtain rfl : u = t := Option.some.inj h
        obtain ⟨h1, h2, h3⟩ := rd_read 4 wd ws u [] hr
        rw [List.append_nil] at h1
        refine ⟨?_, h2, h3⟩
        unfold NT.text
        rw [← h1, ← e, join_split]

/-- How long words are, with a blank each. -/
def lenW : List Word → Nat
  | [] => 0
  | x :: r => x.length + 1 + lenW r
theorem lenW_app : ∀ a b : List Word, lenW (a ++ b) = lenW a + lenW b
  | [], b => by simp [lenW]
  | x :: a, b => by rw [List.cons_append, lenW, lenW, lenW_app a b]; omega
theorem join_len : ∀ ws : List Word, (Go.Lib.join ws [32]).length ≤ lenW ws
  | [] => by simp [Go.Lib.join, lenW]
  | [x] => by rw [jn_one, lenW]; omega
  | x :: y :: r => by
    have ih := join_len (y :: r)
    rw [jn_cons, lenW, List.length_append, List.length_cons]; omega
mutual
theorem lenW_words : ∀ t : NT, t.ok → lenW t.words ≤ 110 * t.size ∧ t.words.length ≤ 3 * t.size
  | .node k a fl nt kids, hok => by
    rw [NT.ok] at hok
    rw [NT.words, NT.size]
    obtain ⟨ih, ih2⟩ := lenW_wordsL kids hok.2
    have e : lenW ([40] :: (wordsL kids ++ [[41]])) = lenW (wordsL kids) + 4 := by rw [lenW, lenW_app]; simp only [lenW, List.length_cons, List.length_nil]; omega
    rcases nodeE_zero hok.1 with ⟨hk, rfl, rfl, rfl, ha⟩ | ⟨hk, rfl, rfl, rfl⟩ | ⟨rfl, rfl, hn⟩
    · have ht : (textA a).length ≤ 100 := text_len ha
      rcases hk with rfl | rfl
      · rw [if_pos rfl]; simp only [lenW, List.length_cons, List.length_nil]; omega
      · rw [if_neg (by decide), if_pos rfl]; simp only [lenW, List.length_cons, List.length_nil]; omega
    · rcases hk with rfl | rfl
      · rw [if_neg (by decide), if_neg (by decide), if_neg (by decide), if_neg (by decide), List.nil_append]
        rw [e]; simp only [List.length_cons, List.length_append, List.length_nil]; omega
      · rw [if_neg (by decide), if_neg (by decide), if_pos rfl, lenW_app, e]; simp only [lenW, List.length_cons, List.length_append, List.length_nil]; omega
    · have h8 := nameB_le hn
      rw [if_neg (by decide), if_neg (by decide), if_neg (by decide), if_pos rfl, lenW_app, e]
      simp only [lenW, List.length_cons, List.length_append, List.length_nil]
      have : (if nt = true then [(33 : UInt8)] else []).length ≤ 1 := by cases nt <;> simp
      omega
theorem lenW_wordsL : ∀ ts : List NT, okL ts → lenW (wordsL ts) ≤ 110 * sizeL ts ∧ (wordsL ts).length ≤ 3 * sizeL ts
  | [], _ => by rw [wordsL, lenW, sizeL]; exact ⟨by omega, by simp⟩
  | t :: ts, hok => by
    rw [okL] at hok
    obtain ⟨h1, h2⟩ := lenW_words t hok.1
    obtain ⟨h3, h4⟩ := lenW_wordsL ts hok.2
    rw [wordsL, lenW_app, sizeL, List.length_append]; omega
end
theorem text_short {t : NT} (h : chkN t = 0) : t.text.length ≤ 2200 ∧ t.words.length ≤ 60 := by
  obtain ⟨h1, h2⟩ := chkN_zero.1 h
  have := small_of h1
  obtain ⟨h3, h4⟩ := lenW_words t h2
  have h5 := join_len t.words
  unfold NT.text; omega
/-- What is printed is read back. -/
theorem rdE_text {t : NT} (h : chkN t = 0) : rdE t.text = 0 ∧ rdText t.text = some t := by
  obtain ⟨h1, h2⟩ := chkN_zero.1 h
  have e := rdText_text h2 (small_of h1).2
  refine ⟨?_, e⟩
  unfold rdE
  have := text_short h
  rw [if_neg (by omega), e]
  exact h
theorem rdE_zero {l : List UInt8} (h : rdE l = 0) : ∃ t, rdText l = some t ∧ chkN t = 0 ∧ t.text = l := by
  unfold rdE at h
  split at h
  · cases h
  · cases e : rdText l with
    | none => rw [e] at h; cases h
    | some t =>
      rw [e] at h
      exact ⟨t, rfl, h, (text_rdText e).1⟩
theorem needText_inj {t u : NT} (ht : chkN t = 0) (hu : chkN u = 0) (h : t.text = u.text) : t = u := by
  have e1 := (rdE_text ht).2
  have e2 := (rdE_text hu).2
  rw [h] at e1
  exact Option.some.inj (e1.symm.trans e2)
end Go.Proofs.YtnagpmilagdjeaaGreatDoor
