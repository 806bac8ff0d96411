/- The lines of a text, and the words of a line, as R.ReadTree cuts them. -/
import Derived.Test.YtkckkjpkidcbnaaGreatDoorTreeParse
import Derived.Test.YtkckkjpkidcbnaaGreatDoorRefReadNeed
import Derived.Test.YtkckkjpkidcbnaaGreatDoorBoxAt
import Derived.Test.YtkckkjpkidcbnaaGreatDoorRefTree
namespace Go.Proofs.YtkckkjpkidcbnaaGreatDoor
open Go.RowKit

theorem gsplit_at (s : UInt8) (x r : List UInt8) (h : ∀ c ∈ x, c ≠ s) : Lib.split (x ++ s :: r) [s] = x :: Lib.split r [s] := by
  unfold Lib.split
  rw [Lib.count_hit (i := x.length) (by simp) (gidx_at s x _ h), Nat.add_comm, gsplitK_at s _ _ _ h]
  have e : List.drop (x.length + [s].length) (x ++ s :: r) = r := by
    rw [show x ++ s :: r = (x ++ [s]) ++ r by simp]
    rw [show x.length + [s].length = (x ++ [s]).length by simp]
    exact List.drop_left
  rw [e]
theorem gsplit_none (s : UInt8) (x : List UInt8) (h : ∀ c ∈ x, c ≠ s) : Lib.split x [s] = [x] := gsplitK_none s _ x h
/-- The lines of a text, as the reference goes through them. -/
def rdSp : List Word → Nat → List PK → Int × Nat × List PK
  | [], k, acc => (0, k, acc)
  | [x], k, acc => if x = [] then (0, k, acc) else (1, k, [])
  | x :: y :: r, k, acc => if lineE x ≠ 0 then (lineE x, k, []) else rdSp (y :: r) (k + 1) (acc ++ [lineP x])
theorem rdLs_split : ∀ (m : Nat) (l : List UInt8) (k : Nat) (acc : List PK), l.length < m → rdLs m l k acc = rdSp (Lib.split l [10]) k acc
  | 0, _, _, _, h => absurd h (Nat.not_lt_zero _)
  | m + 1, l, k, acc, h => by
    rw [rdLs]
    by_cases h0 : l = []
    · subst h0
      rw [if_pos rfl, gsplit_none 10 [] (by simp)]
      simp [rdSp]
    · rw [if_neg h0]
      rcases gidx_cases 10 l with hn | ⟨x, r, rfl, hx⟩
      · rw [gcut_none 10 l hn, gsplit_none 10 l hn]
        simp [rdSp, h0]
      · rw [gcut_at 10 x r hx, gsplit_at 10 x r hx]
        obtain ⟨y, r', e⟩ := gsplitK_pos 10 (Lib.count r [10]) r
        have e' : Lib.split r [10] = y :: r' := e
        have ih := rdLs_split m r (k + 1) (acc ++ [lineP x]) (by simp at h; omega)
        rw [e'] at ih ⊢
        simp only [rdSp, ih]
        simp
theorem splitK_more (s : UInt8) : ∀ (k : Nat) (l : List UInt8), l.length ≤ k → Lib.splitK [s] 0 (k + 1) l = Lib.splitK [s] 0 k l
  | 0, l, h => by
    have : l = [] := List.length_eq_zero_iff.1 (by omega)
    subst this
    rw [gsplitK_none s _ [] (by simp), gsplitK_none s _ [] (by simp)]
  | k + 1, l, h => by
    rcases gidx_cases s l with hn | ⟨x, r, rfl, hx⟩
    · rw [gsplitK_none s _ l hn, gsplitK_none s _ l hn]
    · rw [gsplitK_at s _ x r hx, gsplitK_at s _ x r hx, splitK_more s k r (by simp at h; omega)]
theorem splitK_upto (s : UInt8) (l : List UInt8) : ∀ (d k : Nat), l.length ≤ k → Lib.splitK [s] 0 (k + d) l = Lib.splitK [s] 0 k l
  | 0, _, _ => rfl
  | d + 1, k, h => by rw [← Nat.add_assoc, splitK_more s (k + d) l (by omega), splitK_upto s l d k h]
theorem splitN_four (l : List UInt8) : Lib.splitN l [32] 5 = Lib.splitK [32] 0 4 l := by
  unfold Lib.splitN
  by_cases h : 4 ≤ l.length
  · rw [show min 5 (l.length + 1) - 1 = 4 by omega]
  · rw [show min 5 (l.length + 1) - 1 = l.length by omega, ← splitK_upto 32 l (4 - l.length) l.length (Nat.le_refl _), show l.length + (4 - l.length) = 4 by omega]
theorem lines_of (s : ByteArray) : ∃ ws : List ByteArray, ws = Lib.splitB ⟨#[10]⟩ 0 (Lib.countB s ⟨#[10]⟩) s ∧ ws.length = Lib.countB s ⟨#[10]⟩ + 1 ∧ ws.length ≤ s.size + 1 ∧ ws.map (·.data.toList) = Lib.split s.data.toList [10] ∧ ∀ x ∈ ws, x.size ≤ s.size := by
  have h1 : 1 ≤ (⟨#[10]⟩ : ByteArray).size := by decide
  have hl := Lib.splitB_all ⟨#[10]⟩ h1 0 _ s rfl
  have hc := Lib.countB_le ⟨#[10]⟩ h1 s.size s (Nat.le_refl _)
  have hd : (Lib.splitB ⟨#[10]⟩ 0 (Lib.countB s ⟨#[10]⟩) s).map (·.data.toList) = Lib.split s.data.toList [10] := Lib.splitB_data ⟨#[10]⟩ 0 _ s
  refine ⟨_, rfl, hl, by omega, hd, fun x hx => ?_⟩
  have : x.data.toList ∈ Lib.split s.data.toList [10] := by rw [← hd]; exact List.mem_map.2 ⟨x, hx, rfl⟩
  have h2 := gsplitK_len 10 _ _ _ this
  rw [size_list, size_list] at h2
  exact h2
 where
  gsplitK_len (s : UInt8) : ∀ (k : Nat) (l x : List UInt8), x ∈ Lib.splitK [s] 0 k l → x.length ≤ l.length
  | 0, l, x, h => by rw [List.mem_singleton.1 h]; exact Nat.le_refl _
  | k + 1, l, x, h => by
    rw [Lib.splitK] at h
    split at h
    · rw [List.mem_singleton.1 h]; exact Nat.le_refl _
    · rcases List.mem_cons.1 h with rfl | h
      · rw [List.length_take]; exact Nat.min_le_right _ _
      · have := gsplitK_len s k _ x h
        simp at this; omega
/-- What strings.Cut parts at the blank. -/
theorem cut32 (l : List UInt8) : ((Lib.cut l [32]).2.2 = true ∧ (∀ k, Lib.splitK [32] 0 (k + 1) l = (Lib.cut l [32]).1 :: Lib.splitK [32] 0 k (Lib.cut l [32]).2.1) ∧ (Lib.cut l [32]).1.length ≤ l.length ∧ (Lib.cut l [32]).2.1.length ≤ l.length) ∨ ((Lib.cut l [32]).2.2 = false ∧ ∀ k, Lib.splitK [32] 0 k l = [l]) := by
  rcases gidx_cases 32 l with hn | ⟨x, r, rfl, hx⟩
  · rw [gcut_none 32 l hn]
    exact Or.inr ⟨rfl, fun k => gsplitK_none 32 k l hn⟩
  · rw [gcut_at 32 x r hx]
    exact Or.inl ⟨rfl, fun k => gsplitK_at 32 k x r hx, by simp, by simp; omega⟩
/-- The four words of a line, as they are filled in. -/
def fourA (pre : List ByteArray) : Array Value := ((pre.map Value.string) ++ List.replicate (4 - pre.length) (Value.string ⟨#[]⟩)).toArray
theorem fourA_set (pre : List ByteArray) (x : ByteArray) (h : pre.length < 4) : (fourA pre).setIfInBounds pre.length (.string x) = fourA (pre ++ [x]) := by
  obtain ⟨d, hd⟩ : ∃ d, 4 - pre.length = d + 1 := ⟨3 - pre.length, by omega⟩
  have hd' : 4 - (pre ++ [x]).length = d := by simp; omega
  unfold fourA
  rw [hd, hd']
  simp [List.replicate_succ, List.set_append_right]
end Go.Proofs.YtkckkjpkidcbnaaGreatDoor
