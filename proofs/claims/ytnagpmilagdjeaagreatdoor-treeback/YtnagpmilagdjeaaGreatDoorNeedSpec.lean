/- Needs as plain trees: what is wrong with one, its words, how words are read; what is written is read, and what is read is written as it was. -/
import Derived.Test.YtnagpmilagdjeaaGreatDoorAtomAsked
import Derived.Lib.Split
import Derived.Lib.Join
namespace Go.Proofs.YtnagpmilagdjeaaGreatDoor

/-- An atom's six fields. -/
structure At where
  n : ByteArray
  op : Int
  v : Int
  sl : Int
  f : ByteArray
  on : Bool
/-- A need: its kind, its atom, its flag, whether it is turned, its kids. -/
inductive NT where
  | node (k : Int) (a : At) (fl : ByteArray) (nt : Bool) (kids : List NT)
def At.zero : At := ⟨⟨#[]⟩, 0, 0, 0, ⟨#[]⟩, false⟩
def NT.zero : NT := .node 0 At.zero ⟨#[]⟩ false []
def NT.kids : NT → List NT
  | .node _ _ _ _ ks => ks
def chkA (a : At) : Int := chk a.n.data.toList a.op a.v a.sl a.f.data.toList a.on
def textA (a : At) : List UInt8 := textOf a.n.data.toList a.op a.v a.sl a.f.data.toList a.on
def zeroB (a : At) : Bool := sameB a.n a.op a.v a.sl a.f a.on ⟨#[]⟩ 0 0 0 ⟨#[]⟩ false
def leafB (k : Int) : Bool := (k == 1) || (k == 2)
def formB (k : Int) (a : At) (fl : ByteArray) (nt : Bool) (many : Nat) : Bool :=
  decide (1 ≤ k) && decide (k ≤ 5) && !(leafB k && decide (0 < many)) && !(!leafB k && !zeroB a) && ((k == 5) || (fl.toList.isEmpty && !nt))
def nodeE : NT → Int
  | .node k a fl nt kids => if formB k a fl nt kids.length = false then 4 else if k = 5 ∧ nameB fl.data.toList = false then 1 else if leafB k = true then chkA a else 0

mutual
/-- A walk over all nodes, each ahead of its kids, that ends where f says so. -/
def walkS {σ : Type} (inc : Int → Int) (f : σ → NT → Int → σ × Bool) : σ → NT → Int → σ × Bool
  | s, .node k a fl nt kids, d => if (f s (.node k a fl nt kids) d).2 = true then kidsS inc f (f s (.node k a fl nt kids) d).1 kids (inc d) else ((f s (.node k a fl nt kids) d).1, false)
def kidsS {σ : Type} (inc : Int → Int) (f : σ → NT → Int → σ × Bool) : σ → List NT → Int → σ × Bool
  | s, [], _ => (s, true)
  | s, t :: ts, d => if (walkS inc f s t d).2 = true then kidsS inc f (walkS inc f s t d).1 ts d else ((walkS inc f s t d).1, false)
end
mutual
def NT.size : NT → Nat
  | .node _ _ _ _ kids => 1 + sizeL kids
def sizeL : List NT → Nat
  | [] => 0
  | t :: ts => t.size + sizeL ts
end
mutual
def NT.ht : NT → Nat
  | .node _ _ _ _ kids => 1 + htL kids
def htL : List NT → Nat
  | [] => 0
  | t :: ts => max t.ht (htL ts)
end
mutual
/-- Each node is as it should be. -/
def NT.ok : NT → Prop
  | .node k a fl nt kids => nodeE (.node k a fl nt kids) = 0 ∧ okL kids
def okL : List NT → Prop
  | [] => True
  | t :: ts => t.ok ∧ okL ts
end

abbrev Word := List UInt8
mutual
def NT.words : NT → List Word
  | .node k a fl nt kids =>
    if k = 1 then [textA a] else if k = 2 then [33 :: textA a]
    else (if k = 4 then [[124, 124]] else if k = 5 then [(if nt then [33] else []) ++ (fl.data.toList ++ [63])] else []) ++ ([40] :: (wordsL kids ++ [[41]]))
def wordsL : List NT → List Word
  | [] => []
  | t :: ts => t.words ++ wordsL ts
end

def atOf (s : List UInt8) : At := ⟨⟨(nmL s).toArray⟩, opV (veL s), verV (veL s), slotV (slL s), ⟨((flL s).drop 1).toArray⟩, onV (flL s)⟩
def rdLeaf (wd : Word) : Option NT :=
  if prsE (Go.Lib.trimPrefix wd [33]) = 0 then some (.node (if Go.Lib.hasPrefix wd [33] then 2 else 1) (atOf (Go.Lib.trimPrefix wd [33])) ⟨#[]⟩ false []) else none
def flagW (wd : Word) : List UInt8 := Go.Lib.trimPrefix (Go.Lib.trimSuffix wd [63]) [33]
def notW (wd : Word) : Bool := Go.Lib.hasPrefix (Go.Lib.trimSuffix wd [63]) [33]
/-- The kids up to the word that ends them. -/
def kidsBy (rd : Word → List Word → Option (NT × List Word)) : Nat → List NT → List Word → Option (List NT × List Word)
  | 0, _, _ => none
  | _ + 1, _, [] => none
  | m + 1, acc, wd :: ws => if wd = [41] then some (acc, ws) else match rd wd ws with
    | none => none
    | some r => kidsBy rd m (acc ++ [r.1]) r.2
def kidsAll (rd : Word → List Word → Option (NT × List Word)) (mk : List NT → NT) (ws : List Word) : Option (NT × List Word) :=
  (kidsBy rd (ws.length + 1) [] ws).map fun r => (mk r.1, r.2)
def openBy (rd : Word → List Word → Option (NT × List Word)) (mk : List NT → NT) : List Word → Option (NT × List Word)
  | [] => none
  | o :: ws => if o = [40] then kidsAll rd mk ws else none
def rdNeed : Nat → Word → List Word → Option (NT × List Word)
  | 0, _, _ => none
  | g + 1, wd, ws =>
    if Go.Lib.hasSuffix wd [63] = true then
      if nameB (flagW wd) = true then openBy (rdNeed g) (.node 5 At.zero ⟨(flagW wd).toArray⟩ (notW wd)) ws else none
    else if wd = [124, 124] then openBy (rdNeed g) (.node 4 At.zero ⟨#[]⟩ false) ws
    else if wd = [40] then kidsAll (rdNeed g) (.node 3 At.zero ⟨#[]⟩ false) ws
    else (rdLeaf wd).map fun t => (t, ws)

def inc64 (d : Int) : Int := Go.RowKit.wrap64 (d + 1)
def fN (s : Int) (_ : NT) (d : Int) : Int × Bool := (s + 1, decide (s + 1 ≤ 20) && decide (d ≤ 4))
def fE (_ : Int) (t : NT) (_ : Int) : Int × Bool := (nodeE t, nodeE t == 0)
def largeB (t : NT) : Bool := !(walkS inc64 fN 0 t 1).2
def chkN (t : NT) : Int := if largeB t = true then 2 else (walkS inc64 fE 0 t 1).1
end Go.Proofs.YtnagpmilagdjeaaGreatDoor
