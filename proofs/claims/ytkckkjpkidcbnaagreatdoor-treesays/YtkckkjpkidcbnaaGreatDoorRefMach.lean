/- The stack of what is open, on which quartermasterref.ReadNeed reads, reads what rdWords reads. -/
import Derived.Test.YtkckkjpkidcbnaaGreatDoorNeedNeeded
namespace Go.Proofs.YtkckkjpkidcbnaaGreatDoor

/-- A need with these kids in the place of its own. -/
def NT.withKids : NT → List NT → NT
  | .node k a fl nt _, ks => .node k a fl nt ks
def NT.addKid (p t : NT) : NT := p.withKids (p.kids ++ [t])
theorem withKids_kids (p : NT) : p.withKids p.kids = p := by cases p; rfl
theorem addKid_with (p : NT) (acc : List NT) (t : NT) : (p.withKids acc).addKid t = p.withKids (acc ++ [t]) := by cases p; rfl
/-- The machine: what is open (the innermost first), what is whole, the words to come. -/
def mach : List NT → Option NT → List Word → Option NT
  | _, wh, [] => wh
  | _, some _, _ :: _ => none
  | op, none, x :: ws =>
    if x = [41] then match op with
      | [] => none
      | [n] => mach [] (some n) ws
      | n :: p :: q => mach (p.addKid n :: q) none ws
    else if op.length = 4 then none
    else if x = [40] then mach (.node 3 At.zero ⟨#[]⟩ false [] :: op) none ws
    else if x = [124, 124] then match ws with
      | [] => none
      | y :: ws' => if y = [40] then mach (.node 4 At.zero ⟨#[]⟩ false [] :: op) none ws' else none
    else if Lib.hasSuffix x [63] = true then
      if nameB (flagW x) = true then match ws with
        | [] => none
        | y :: ws' => if y = [40] then mach (.node 5 At.zero ⟨(flagW x).toArray⟩ (notW x) [] :: op) none ws' else none
      else none
    else match rdLeaf x with
      | none => none
      | some t => match op with
        | [] => mach [] (some t) ws
        | p :: q => mach (p.addKid t :: q) none ws
theorem mach_step (op : List NT) (x : Word) (ws : List Word) : mach op none (x :: ws) =
    (if x = [41] then match op with
      | [] => none
      | [n] => mach [] (some n) ws
      | n :: p :: q => mach (p.addKid n :: q) none ws
    else if op.length = 4 then none
    else if x = [40] then mach (.node 3 At.zero ⟨#[]⟩ false [] :: op) none ws
    else if x = [124, 124] then match ws with
      | [] => none
      | y :: ws' => if y = [40] then mach (.node 4 At.zero ⟨#[]⟩ false [] :: op) none ws' else none
    else if Lib.hasSuffix x [63] = true then
      if nameB (flagW x) = true then match ws with
        | [] => none
        | y :: ws' => if y = [40] then mach (.node 5 At.zero ⟨(flagW x).toArray⟩ (notW x) [] :: op) none ws' else none
      else none
    else match rdLeaf x with
      | none => none
      | some t => match op with
        | [] => mach [] (some t) ws
        | p :: q => mach (p.addKid t :: q) none ws) := by
  rw [mach.eq_def]
/-- A need that is read is whole, or a kid of the innermost that is open. -/
def putM (op : List NT) (t : NT) (ws : List Word) : Option NT := match op with
  | [] => mach [] (some t) ws
  | p :: q => mach (p.addKid t :: q) none ws
def goM (op : List NT) (r : Option (NT × List Word)) : Option NT := match r with
  | none => none
  | some r => putM op r.1 r.2

theorem mach_kids {g : Nat} (hN : ∀ (op : List NT) (wd : Word) (ws : List Word), op.length + g = 4 → wd ≠ [41] → mach op none (wd :: ws) = goM op (rdNeed g wd ws)) :
    ∀ (m : Nat) (p : NT) (op : List NT) (acc : List NT) (ws : List Word), op.length + 1 + g = 4 → ws.length < m → mach (p.withKids acc :: op) none ws = goM op ((kidsBy (rdNeed g) m acc ws).map fun r => (p.withKids r.1, r.2))
  | 0, _, _, _, _, _, h => absurd h (Nat.not_lt_zero _)
  | m + 1, p, op, acc, [], _, _ => by rw [mach, kidsBy]; rfl
  | m + 1, p, op, acc, x :: ws, ho, hm => by
    by_cases hx : x = [41]
    · rw [mach_step, if_pos hx, kidsBy, if_pos hx]
      cases op with
      | nil => rfl
      | cons q r => rfl
    · rw [hN (p.withKids acc :: op) x ws (by simpa using ho) hx, kidsBy, if_neg hx]
      cases hr : rdNeed g x ws with
      | none => rfl
      | some r =>
        obtain ⟨t, rest⟩ := r
        have hl := rd_len hr
        show mach ((p.withKids acc).addKid t :: op) none rest = _
        rw [addKid_with, mach_kids hN m p op (acc ++ [t]) rest ho (by simp at hm; omega)]
theorem mach_need : ∀ (g : Nat) (op : List NT) (wd : Word) (ws : List Word), op.length + g = 4 → wd ≠ [41] → mach op none (wd :: ws) = goM op (rdNeed g wd ws)
  | 0, op, wd, ws, ho, hw => by
    rw [mach_step, if_neg hw, if_pos (by omega), rdNeed]; rfl
  | g + 1, op, wd, ws, ho, hw => by
    have hk : ∀ (p : NT) (ws : List Word), p.kids = [] → mach (p :: op) none ws = goM op (kidsAll (rdNeed g) (fun ks => p.withKids ks) ws) := fun p ws hp => by
      have := mach_kids (mach_need g) (ws.length + 1) p op [] ws (by omega) (Nat.lt_succ_self _)
      rw [← hp, withKids_kids] at this
      rw [this, hp]; rfl
    rw [mach_step, if_neg hw, if_neg (by omega), rdNeed]
    by_cases h1 : wd = [40]
    · rw [if_pos h1, if_neg (by rw [h1]; decide), if_neg (by rw [h1]; decide), if_pos h1, hk _ ws rfl]; rfl
    · rw [if_neg h1]
      by_cases h2 : wd = [124, 124]
      · rw [if_pos h2, if_neg (by rw [h2]; decide), if_pos h2]
        cases ws with
        | nil => rfl
        | cons y ws' =>
          rw [openBy]
          by_cases hy : y = [40]
          · rw [if_pos hy]
            show (if y = [40] then _ else _) = _
            rw [if_pos hy, hk _ ws' rfl]; rfl
          · rw [if_neg hy]
            show (if y = [40] then _ else _) = _
            rw [if_neg hy]; rfl
      · rw [if_neg h2]
        by_cases h3 : Lib.hasSuffix wd [63] = true
        · rw [if_pos h3, if_pos h3]
          by_cases h4 : nameB (flagW wd) = true
          · rw [if_pos h4, if_pos h4]
            cases ws with
            | nil => rfl
            | cons y ws' =>
              rw [openBy]
              by_cases hy : y = [40]
              · rw [if_pos hy]
                show (if y = [40] then _ else _) = _
                rw [if_pos hy, hk _ ws' rfl]; rfl
              · rw [if_neg hy]
                show (if y = [40] then _ else _) = _
                rw [if_neg hy]; rfl
          · rw [if_neg h4, if_neg h4]; rfl
        · rw [if_neg h3, if_neg h3, if_neg h2, if_neg h1]
          cases hl : rdLeaf wd with
          | none => rfl
          | some t =>
            cases op with
            | nil => rfl
            | cons p q => rfl
/-- From nothing open the machine reads what rdWords reads. -/
theorem mach_words (ws : List Word) : mach [] none ws = rdWords ws := by
  cases ws with
  | nil => rw [mach]; rfl
  | cons wd ws =>
    obtain ⟨g4, hg4⟩ : ∃ g : Nat, g = 4 := ⟨4, rfl⟩
    by_cases hw : wd = [41]
    · have hl : rdLeaf wd = none := by rw [hw]; decide
      rw [mach_step, if_pos hw, rdWords, rdNeed, if_neg (by rw [hw]; decide), if_neg (by rw [hw]; decide), if_neg (by rw [hw]; decide), hl]; rfl
    · have := mach_need g4 [] wd ws (by simp; omega) hw
      rw [this, rdWords, ← hg4]
      cases hr : rdNeed g4 wd ws with
      | none => rfl
      | some r =>
        obtain ⟨t, rest⟩ := r
        cases rest with
        | nil => show mach [] (some t) [] = some t; rw [mach]
        | cons y r => show mach [] (some t) (y :: r) = none; rw [mach]
end Go.Proofs.YtkckkjpkidcbnaaGreatDoor
