/-
  DERIVED. GIVEN WITH THE SEED: THE CARDS: each row of YthjlcjdlelkkdaaGreatDoorRows.lean that lists a variable, with what it lists TIED to the program's text (the seventh form; the later family's looks); each row that meets fmt, with fmt's text TOLD by the authors' own Lean function (tested against real Go, not proved from fmt's source: count such statements apart). THE CARD IS WHAT COUNTS. Prove the row's statement (the work); the ties are given (YthjlcjdlelkkdaaGreatDoorTie.lean); close each card by the builder's one call (the guide's Derived/Test/ToyasCard.lean, 'card_holds'). Laid BY PROGRAM, IN A SANDBOX (cutbox-door.mjs). By AI agents, Wed Nov 11 2026. No macro, syntax, notation, axiom, sorry.
-/
import Derived.Test.YthjlcjdlelkkdaaGreatDoorRows
import GoSem.ClaimSeven
namespace Go.Proofs.YthjlcjdlelkkdaaGreatDoor
namespace Rows

/-- THE TIED CARD OF 'quartermasterlaw.ResolveSays'. -/
def resolveSaysCard : Claim7 := { stood := { row := resolveSaysRow, standIns := [], harness := (true, "cebf259ba0d87fd070013c760b7387af517591d064ec34151ec42884faa3312d"), looks := true }, kinds := [], alts := [], laidByText := true, laidKinds := [.data, .data, .data, .data, .sentinel, .sentinel, .data, .pinned], laidTests := true, laidLooks := .later }
def ResolveSaysCardSaid : Prop := Claim7.holds Tryz.pinned (.plain (OpenSpec.ofChange resolveSaysSpec)) resolveSaysCard

/-- THE SECOND FORM's CARD OF 'quartermasterlaw.ResolveSays'. -/
def resolveSaysUptoCard : Claim7 := { stood := { row := resolveSaysUptoRow, standIns := [], harness := (true, "cebf259ba0d87fd070013c760b7387af517591d064ec34151ec42884faa3312d"), looks := true }, kinds := [], alts := [], laidByText := true, laidKinds := [.data, .data, .data, .data, .sentinel, .sentinel, .data, .pinned], laidTests := true, laidLooks := .later }
def ResolveSaysUptoCardSaid : Prop := Claim7.holds Tryz.pinned (.plain (OpenSpec.upto resolveSaysSpec)) resolveSaysUptoCard
end Rows
end Go.Proofs.YthjlcjdlelkkdaaGreatDoor
