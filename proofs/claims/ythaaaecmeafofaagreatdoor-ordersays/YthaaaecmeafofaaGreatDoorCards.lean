/-
  DERIVED. GIVEN WITH THE SEED: THE CARDS: each row of YthaaaecmeafofaaGreatDoorRows.lean that lists a variable, with what it lists TIED to the program's text (the seventh form; the later family's looks); each row that meets fmt, with fmt's text TOLD by the authors' own Lean function (tested against real Go, not proved from fmt's source: count such statements apart). THE CARD IS WHAT COUNTS. Prove the row's statement (the work); the ties are given (YthaaaecmeafofaaGreatDoorTie.lean); close each card by the builder's one call (the guide's Derived/Test/ToyasCard.lean, 'card_holds'). Laid BY PROGRAM, IN A SANDBOX (cutbox-door.mjs). By AI agents, Wed Nov 11 2026. No macro, syntax, notation, axiom, sorry.
-/
import Derived.Test.YthaaaecmeafofaaGreatDoorRows
import GoSem.ClaimSeven
namespace Go.Proofs.YthaaaecmeafofaaGreatDoor
namespace Rows

/-- THE TIED CARD OF 'quartermasterlaw.OrderSays'. -/
def orderSaysCard : Claim7 := { stood := { row := orderSaysRow, standIns := [], harness := (true, "63d9a77b3429b794c4f66b152c8b3b5e9b28c0da63e332c1a2b31e8d75a80d4f"), looks := true }, kinds := [], alts := [], laidByText := true, laidKinds := [.data, .data, .data, .data, .sentinel, .sentinel, .data, .pinned], laidTests := true, laidLooks := .later }
def OrderSaysCardSaid : Prop := Claim7.holds Tryz.pinned (.plain (OpenSpec.ofChange orderSaysSpec)) orderSaysCard

/-- THE TIED CARD OF 'quartermasterlaw.ResolveSays'. -/
def resolveSaysCard : Claim7 := { stood := { row := resolveSaysRow, standIns := [], harness := (true, "63d9a77b3429b794c4f66b152c8b3b5e9b28c0da63e332c1a2b31e8d75a80d4f"), looks := true }, kinds := [], alts := [], laidByText := true, laidKinds := [.data, .data, .data, .data, .sentinel, .sentinel, .data, .pinned], laidTests := true, laidLooks := .later }
def ResolveSaysCardSaid : Prop := Claim7.holds Tryz.pinned (.plain (OpenSpec.ofChange resolveSaysSpec)) resolveSaysCard

/-- THE TIED CARD OF 'quartermasterlaw.ResolveBest'. -/
def resolveBestCard : Claim7 := { stood := { row := resolveBestRow, standIns := [], harness := (true, "63d9a77b3429b794c4f66b152c8b3b5e9b28c0da63e332c1a2b31e8d75a80d4f"), looks := true }, kinds := [], alts := [], laidByText := true, laidKinds := [.data, .data, .data, .data, .sentinel, .sentinel, .data, .pinned], laidTests := true, laidLooks := .later }
def ResolveBestCardSaid : Prop := Claim7.holds Tryz.pinned (.plain (OpenSpec.ofChange resolveBestSpec)) resolveBestCard

/-- THE TIED CARD OF 'quartermasterlaw.ValidSays'. -/
def validSaysCard : Claim7 := { stood := { row := validSaysRow, standIns := [], harness := (true, "63d9a77b3429b794c4f66b152c8b3b5e9b28c0da63e332c1a2b31e8d75a80d4f"), looks := true }, kinds := [], alts := [], laidByText := true, laidKinds := [.data, .data, .data, .data, .sentinel, .sentinel, .data, .pinned], laidTests := true, laidLooks := .later }
def ValidSaysCardSaid : Prop := Claim7.holds Tryz.pinned (.plain (OpenSpec.ofChange validSaysSpec)) validSaysCard

/-- THE TIED CARD OF 'quartermasterlaw.ValidLess'. -/
def validLessCard : Claim7 := { stood := { row := validLessRow, standIns := [], harness := (true, "63d9a77b3429b794c4f66b152c8b3b5e9b28c0da63e332c1a2b31e8d75a80d4f"), looks := true }, kinds := [], alts := [], laidByText := true, laidKinds := [.data, .data, .data, .data, .sentinel, .sentinel, .data, .pinned], laidTests := true, laidLooks := .later }
def ValidLessCardSaid : Prop := Claim7.holds Tryz.pinned (.plain (OpenSpec.ofChange validLessSpec)) validLessCard

/-- THE TIED CARD OF 'quartermasterlaw.EncodeSays'. -/
def encodeSaysCard : Claim7 := { stood := { row := encodeSaysRow, standIns := [], harness := (true, "63d9a77b3429b794c4f66b152c8b3b5e9b28c0da63e332c1a2b31e8d75a80d4f"), looks := true }, kinds := [], alts := [], laidByText := true, laidKinds := [.data, .data, .data, .data, .sentinel, .sentinel, .data, .pinned], laidTests := true, laidLooks := .later }
def EncodeSaysCardSaid : Prop := Claim7.holds Tryz.pinned (.plain (OpenSpec.ofChange encodeSaysSpec)) encodeSaysCard

/-- THE TIED CARD OF 'quartermasterlaw.EncodeSteps'. -/
def encodeStepsCard : Claim7 := { stood := { row := encodeStepsRow, standIns := [], harness := (true, "63d9a77b3429b794c4f66b152c8b3b5e9b28c0da63e332c1a2b31e8d75a80d4f"), looks := true }, kinds := [], alts := [], laidByText := true, laidKinds := [.data, .data, .data, .data, .sentinel, .sentinel, .data, .pinned], laidTests := true, laidLooks := .later }
def EncodeStepsCardSaid : Prop := Claim7.holds Tryz.pinned (.plain (OpenSpec.ofChange encodeStepsSpec)) encodeStepsCard

/-- THE SECOND FORM's CARD OF 'quartermasterlaw.OrderSays'. -/
def orderSaysUptoCard : Claim7 := { stood := { row := orderSaysUptoRow, standIns := [], harness := (true, "63d9a77b3429b794c4f66b152c8b3b5e9b28c0da63e332c1a2b31e8d75a80d4f"), looks := true }, kinds := [], alts := [], laidByText := true, laidKinds := [.data, .data, .data, .data, .sentinel, .sentinel, .data, .pinned], laidTests := true, laidLooks := .later }
def OrderSaysUptoCardSaid : Prop := Claim7.holds Tryz.pinned (.plain (OpenSpec.upto orderSaysSpec)) orderSaysUptoCard

/-- THE SECOND FORM's CARD OF 'quartermasterlaw.ResolveSays'. -/
def resolveSaysUptoCard : Claim7 := { stood := { row := resolveSaysUptoRow, standIns := [], harness := (true, "63d9a77b3429b794c4f66b152c8b3b5e9b28c0da63e332c1a2b31e8d75a80d4f"), looks := true }, kinds := [], alts := [], laidByText := true, laidKinds := [.data, .data, .data, .data, .sentinel, .sentinel, .data, .pinned], laidTests := true, laidLooks := .later }
def ResolveSaysUptoCardSaid : Prop := Claim7.holds Tryz.pinned (.plain (OpenSpec.upto resolveSaysSpec)) resolveSaysUptoCard

/-- THE SECOND FORM's CARD OF 'quartermasterlaw.ResolveBest'. -/
def resolveBestUptoCard : Claim7 := { stood := { row := resolveBestUptoRow, standIns := [], harness := (true, "63d9a77b3429b794c4f66b152c8b3b5e9b28c0da63e332c1a2b31e8d75a80d4f"), looks := true }, kinds := [], alts := [], laidByText := true, laidKinds := [.data, .data, .data, .data, .sentinel, .sentinel, .data, .pinned], laidTests := true, laidLooks := .later }
def ResolveBestUptoCardSaid : Prop := Claim7.holds Tryz.pinned (.plain (OpenSpec.upto resolveBestSpec)) resolveBestUptoCard

/-- THE SECOND FORM's CARD OF 'quartermasterlaw.ValidSays'. -/
def validSaysUptoCard : Claim7 := { stood := { row := validSaysUptoRow, standIns := [], harness := (true, "63d9a77b3429b794c4f66b152c8b3b5e9b28c0da63e332c1a2b31e8d75a80d4f"), looks := true }, kinds := [], alts := [], laidByText := true, laidKinds := [.data, .data, .data, .data, .sentinel, .sentinel, .data, .pinned], laidTests := true, laidLooks := .later }
def ValidSaysUptoCardSaid : Prop := Claim7.holds Tryz.pinned (.plain (OpenSpec.upto validSaysSpec)) validSaysUptoCard

/-- THE SECOND FORM's CARD OF 'quartermasterlaw.ValidLess'. -/
def validLessUptoCard : Claim7 := { stood := { row := validLessUptoRow, standIns := [], harness := (true, "63d9a77b3429b794c4f66b152c8b3b5e9b28c0da63e332c1a2b31e8d75a80d4f"), looks := true }, kinds := [], alts := [], laidByText := true, laidKinds := [.data, .data, .data, .data, .sentinel, .sentinel, .data, .pinned], laidTests := true, laidLooks := .later }
def ValidLessUptoCardSaid : Prop := Claim7.holds Tryz.pinned (.plain (OpenSpec.upto validLessSpec)) validLessUptoCard

/-- THE SECOND FORM's CARD OF 'quartermasterlaw.EncodeSays'. -/
def encodeSaysUptoCard : Claim7 := { stood := { row := encodeSaysUptoRow, standIns := [], harness := (true, "63d9a77b3429b794c4f66b152c8b3b5e9b28c0da63e332c1a2b31e8d75a80d4f"), looks := true }, kinds := [], alts := [], laidByText := true, laidKinds := [.data, .data, .data, .data, .sentinel, .sentinel, .data, .pinned], laidTests := true, laidLooks := .later }
def EncodeSaysUptoCardSaid : Prop := Claim7.holds Tryz.pinned (.plain (OpenSpec.upto encodeSaysSpec)) encodeSaysUptoCard

/-- THE SECOND FORM's CARD OF 'quartermasterlaw.EncodeSteps'. -/
def encodeStepsUptoCard : Claim7 := { stood := { row := encodeStepsUptoRow, standIns := [], harness := (true, "63d9a77b3429b794c4f66b152c8b3b5e9b28c0da63e332c1a2b31e8d75a80d4f"), looks := true }, kinds := [], alts := [], laidByText := true, laidKinds := [.data, .data, .data, .data, .sentinel, .sentinel, .data, .pinned], laidTests := true, laidLooks := .later }
def EncodeStepsUptoCardSaid : Prop := Claim7.holds Tryz.pinned (.plain (OpenSpec.upto encodeStepsSpec)) encodeStepsUptoCard
end Rows
end Go.Proofs.YthaaaecmeafofaaGreatDoor
