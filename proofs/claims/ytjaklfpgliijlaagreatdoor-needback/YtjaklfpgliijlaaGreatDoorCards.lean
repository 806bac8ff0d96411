/-
  DERIVED. GIVEN WITH THE SEED: THE CARDS: each row of YtjaklfpgliijlaaGreatDoorRows.lean that lists a variable, with what it lists TIED to the program's text (the seventh form; the later family's looks); each row that meets fmt, with fmt's text TOLD by the authors' own Lean function (tested against real Go, not proved from fmt's source: count such statements apart). THE CARD IS WHAT COUNTS. Prove the row's statement (the work); the ties are given (YtjaklfpgliijlaaGreatDoorTie.lean); close each card by the builder's one call (the guide's Derived/Test/ToyasCard.lean, 'card_holds'). Laid BY PROGRAM, IN A SANDBOX (cutbox-door.mjs). By AI agents, Wed Nov 11 2026. No macro, syntax, notation, axiom, sorry.
-/
import Derived.Test.YtjaklfpgliijlaaGreatDoorRows
import GoSem.ClaimSeven
namespace Go.Proofs.YtjaklfpgliijlaaGreatDoor
namespace Rows

/-- THE TIED CARD OF 'quartermasterlaw.NeedSays'. -/
def needSaysCard : Claim7 := { stood := { row := needSaysRow, standIns := [], harness := (true, "80da29eb7856c22041def4a02898580a029b142c43ad1128f5f3c57f02baf4c0"), looks := true }, kinds := [], alts := [], laidByText := true, laidKinds := [.data, .data, .data, .data, .sentinel, .sentinel, .data, .pinned], laidTests := true, laidLooks := .later }
def NeedSaysCardSaid : Prop := Claim7.holds Tryz.pinned (.plain (OpenSpec.ofChange needSaysSpec)) needSaysCard

/-- THE TIED CARD OF 'quartermasterlaw.NeedBack'. -/
def needBackCard : Claim7 := { stood := { row := needBackRow, standIns := [], harness := (true, "80da29eb7856c22041def4a02898580a029b142c43ad1128f5f3c57f02baf4c0"), looks := true }, kinds := [], alts := [], laidByText := true, laidKinds := [.data, .data, .data, .data, .sentinel, .sentinel, .data, .pinned], laidTests := true, laidLooks := .later }
def NeedBackCardSaid : Prop := Claim7.holds Tryz.pinned (.plain (OpenSpec.ofChange needBackSpec)) needBackCard

/-- THE SECOND FORM's CARD OF 'quartermasterlaw.NeedSays'. -/
def needSaysUptoCard : Claim7 := { stood := { row := needSaysUptoRow, standIns := [], harness := (true, "80da29eb7856c22041def4a02898580a029b142c43ad1128f5f3c57f02baf4c0"), looks := true }, kinds := [], alts := [], laidByText := true, laidKinds := [.data, .data, .data, .data, .sentinel, .sentinel, .data, .pinned], laidTests := true, laidLooks := .later }
def NeedSaysUptoCardSaid : Prop := Claim7.holds Tryz.pinned (.plain (OpenSpec.upto needSaysSpec)) needSaysUptoCard

/-- THE SECOND FORM's CARD OF 'quartermasterlaw.NeedBack'. -/
def needBackUptoCard : Claim7 := { stood := { row := needBackUptoRow, standIns := [], harness := (true, "80da29eb7856c22041def4a02898580a029b142c43ad1128f5f3c57f02baf4c0"), looks := true }, kinds := [], alts := [], laidByText := true, laidKinds := [.data, .data, .data, .data, .sentinel, .sentinel, .data, .pinned], laidTests := true, laidLooks := .later }
def NeedBackUptoCardSaid : Prop := Claim7.holds Tryz.pinned (.plain (OpenSpec.upto needBackSpec)) needBackUptoCard
end Rows
end Go.Proofs.YtjaklfpgliijlaaGreatDoor
