/-
  DERIVED. GIVEN WITH THE SEED: THE CARDS: each row of YtonlloiemgdfkaaGreatDoorRows.lean that lists a variable, with what it lists TIED to the program's text (the seventh form; the later family's looks); each row that meets fmt, with fmt's text TOLD by the authors' own Lean function (tested against real Go, not proved from fmt's source: count such statements apart). THE CARD IS WHAT COUNTS. Prove the row's statement (the work); the ties are given (YtonlloiemgdfkaaGreatDoorTie.lean); close each card by the builder's one call (the guide's Derived/Test/ToyasCard.lean, 'card_holds'). Laid BY PROGRAM, IN A SANDBOX (cutbox-door.mjs). By AI agents, Wed Nov 11 2026. No macro, syntax, notation, axiom, sorry.
-/
import Derived.Test.YtonlloiemgdfkaaGreatDoorRows
import GoSem.ClaimSeven
namespace Go.Proofs.YtonlloiemgdfkaaGreatDoor
namespace Rows

/-- THE TIED CARD OF 'quartermasterlaw.ResolveSays'. -/
def resolveSaysCard : Claim7 := { stood := { row := resolveSaysRow, standIns := [], harness := (true, "aa6496595a5d1533a86d73155187943fddacfd47665b00170ac10ced83db8886"), looks := true }, kinds := [], alts := [], laidByText := true, laidKinds := [.data, .data, .data, .data, .sentinel, .sentinel, .data, .pinned], laidTests := true, laidLooks := .later }
def ResolveSaysCardSaid : Prop := Claim7.holds Tryz.pinned (.plain (OpenSpec.ofChange resolveSaysSpec)) resolveSaysCard

/-- THE TIED CARD OF 'quartermasterlaw.ResolveLess'. -/
def resolveLessCard : Claim7 := { stood := { row := resolveLessRow, standIns := [], harness := (true, "aa6496595a5d1533a86d73155187943fddacfd47665b00170ac10ced83db8886"), looks := true }, kinds := [], alts := [], laidByText := true, laidKinds := [.data, .data, .data, .data, .sentinel, .sentinel, .data, .pinned], laidTests := true, laidLooks := .later }
def ResolveLessCardSaid : Prop := Claim7.holds Tryz.pinned (.plain (OpenSpec.ofChange resolveLessSpec)) resolveLessCard

/-- THE TIED CARD OF 'quartermasterlaw.OrderSays'. -/
def orderSaysCard : Claim7 := { stood := { row := orderSaysRow, standIns := [], harness := (true, "aa6496595a5d1533a86d73155187943fddacfd47665b00170ac10ced83db8886"), looks := true }, kinds := [], alts := [], laidByText := true, laidKinds := [.data, .data, .data, .data, .sentinel, .sentinel, .data, .pinned], laidTests := true, laidLooks := .later }
def OrderSaysCardSaid : Prop := Claim7.holds Tryz.pinned (.plain (OpenSpec.ofChange orderSaysSpec)) orderSaysCard

/-- THE TIED CARD OF 'quartermasterlaw.OrderMakes'. -/
def orderMakesCard : Claim7 := { stood := { row := orderMakesRow, standIns := [], harness := (true, "aa6496595a5d1533a86d73155187943fddacfd47665b00170ac10ced83db8886"), looks := true }, kinds := [], alts := [], laidByText := true, laidKinds := [.data, .data, .data, .data, .sentinel, .sentinel, .data, .pinned], laidTests := true, laidLooks := .later }
def OrderMakesCardSaid : Prop := Claim7.holds Tryz.pinned (.plain (OpenSpec.ofChange orderMakesSpec)) orderMakesCard

/-- THE TIED CARD OF 'quartermasterlaw.OrderNone'. -/
def orderNoneCard : Claim7 := { stood := { row := orderNoneRow, standIns := [], harness := (true, "aa6496595a5d1533a86d73155187943fddacfd47665b00170ac10ced83db8886"), looks := true }, kinds := [], alts := [], laidByText := true, laidKinds := [.data, .data, .data, .data, .sentinel, .sentinel, .data, .pinned], laidTests := true, laidLooks := .later }
def OrderNoneCardSaid : Prop := Claim7.holds Tryz.pinned (.plain (OpenSpec.ofChange orderNoneSpec)) orderNoneCard

/-- THE TIED CARD OF 'quartermasterlaw.OrderLeans'. -/
def orderLeansCard : Claim7 := { stood := { row := orderLeansRow, standIns := [], harness := (true, "aa6496595a5d1533a86d73155187943fddacfd47665b00170ac10ced83db8886"), looks := true }, kinds := [], alts := [], laidByText := true, laidKinds := [.data, .data, .data, .data, .sentinel, .sentinel, .data, .pinned], laidTests := true, laidLooks := .later }
def OrderLeansCardSaid : Prop := Claim7.holds Tryz.pinned (.plain (OpenSpec.ofChange orderLeansSpec)) orderLeansCard

/-- THE TIED CARD OF 'quartermasterlaw.OrderFirst'. -/
def orderFirstCard : Claim7 := { stood := { row := orderFirstRow, standIns := [], harness := (true, "aa6496595a5d1533a86d73155187943fddacfd47665b00170ac10ced83db8886"), looks := true }, kinds := [], alts := [], laidByText := true, laidKinds := [.data, .data, .data, .data, .sentinel, .sentinel, .data, .pinned], laidTests := true, laidLooks := .later }
def OrderFirstCardSaid : Prop := Claim7.holds Tryz.pinned (.plain (OpenSpec.ofChange orderFirstSpec)) orderFirstCard

/-- THE TIED CARD OF 'quartermasterlaw.ResolveProves'. -/
def resolveProvesCard : Claim7 := { stood := { row := resolveProvesRow, standIns := [], harness := (true, "aa6496595a5d1533a86d73155187943fddacfd47665b00170ac10ced83db8886"), looks := true }, kinds := [], alts := [], laidByText := true, laidKinds := [.data, .data, .data, .data, .sentinel, .sentinel, .data, .pinned], laidTests := true, laidLooks := .later }
def ResolveProvesCardSaid : Prop := Claim7.holds Tryz.pinned (.plain (OpenSpec.ofChange resolveProvesSpec)) resolveProvesCard

/-- THE TIED CARD OF 'quartermasterlaw.ResolveBest'. -/
def resolveBestCard : Claim7 := { stood := { row := resolveBestRow, standIns := [], harness := (true, "aa6496595a5d1533a86d73155187943fddacfd47665b00170ac10ced83db8886"), looks := true }, kinds := [], alts := [], laidByText := true, laidKinds := [.data, .data, .data, .data, .sentinel, .sentinel, .data, .pinned], laidTests := true, laidLooks := .later }
def ResolveBestCardSaid : Prop := Claim7.holds Tryz.pinned (.plain (OpenSpec.ofChange resolveBestSpec)) resolveBestCard

/-- THE TIED CARD OF 'quartermasterlaw.ResolveUnmasks'. -/
def resolveUnmasksCard : Claim7 := { stood := { row := resolveUnmasksRow, standIns := [], harness := (true, "aa6496595a5d1533a86d73155187943fddacfd47665b00170ac10ced83db8886"), looks := true }, kinds := [], alts := [], laidByText := true, laidKinds := [.data, .data, .data, .data, .sentinel, .sentinel, .data, .pinned], laidTests := true, laidLooks := .later }
def ResolveUnmasksCardSaid : Prop := Claim7.holds Tryz.pinned (.plain (OpenSpec.ofChange resolveUnmasksSpec)) resolveUnmasksCard

/-- THE TIED CARD OF 'quartermasterlaw.ResolveNothing'. -/
def resolveNothingCard : Claim7 := { stood := { row := resolveNothingRow, standIns := [], harness := (true, "aa6496595a5d1533a86d73155187943fddacfd47665b00170ac10ced83db8886"), looks := true }, kinds := [], alts := [], laidByText := true, laidKinds := [.data, .data, .data, .data, .sentinel, .sentinel, .data, .pinned], laidTests := true, laidLooks := .later }
def ResolveNothingCardSaid : Prop := Claim7.holds Tryz.pinned (.plain (OpenSpec.ofChange resolveNothingSpec)) resolveNothingCard

/-- THE TIED CARD OF 'quartermasterlaw.EncodeMeans'. -/
def encodeMeansCard : Claim7 := { stood := { row := encodeMeansRow, standIns := [], harness := (true, "aa6496595a5d1533a86d73155187943fddacfd47665b00170ac10ced83db8886"), looks := true }, kinds := [], alts := [], laidByText := true, laidKinds := [.data, .data, .data, .data, .sentinel, .sentinel, .data, .pinned], laidTests := true, laidLooks := .later }
def EncodeMeansCardSaid : Prop := Claim7.holds Tryz.pinned (.plain (OpenSpec.ofChange encodeMeansSpec)) encodeMeansCard

/-- THE SECOND FORM's CARD OF 'quartermasterlaw.ResolveSays'. -/
def resolveSaysUptoCard : Claim7 := { stood := { row := resolveSaysUptoRow, standIns := [], harness := (true, "aa6496595a5d1533a86d73155187943fddacfd47665b00170ac10ced83db8886"), looks := true }, kinds := [], alts := [], laidByText := true, laidKinds := [.data, .data, .data, .data, .sentinel, .sentinel, .data, .pinned], laidTests := true, laidLooks := .later }
def ResolveSaysUptoCardSaid : Prop := Claim7.holds Tryz.pinned (.plain (OpenSpec.upto resolveSaysSpec)) resolveSaysUptoCard

/-- THE SECOND FORM's CARD OF 'quartermasterlaw.ResolveLess'. -/
def resolveLessUptoCard : Claim7 := { stood := { row := resolveLessUptoRow, standIns := [], harness := (true, "aa6496595a5d1533a86d73155187943fddacfd47665b00170ac10ced83db8886"), looks := true }, kinds := [], alts := [], laidByText := true, laidKinds := [.data, .data, .data, .data, .sentinel, .sentinel, .data, .pinned], laidTests := true, laidLooks := .later }
def ResolveLessUptoCardSaid : Prop := Claim7.holds Tryz.pinned (.plain (OpenSpec.upto resolveLessSpec)) resolveLessUptoCard

/-- THE SECOND FORM's CARD OF 'quartermasterlaw.OrderSays'. -/
def orderSaysUptoCard : Claim7 := { stood := { row := orderSaysUptoRow, standIns := [], harness := (true, "aa6496595a5d1533a86d73155187943fddacfd47665b00170ac10ced83db8886"), looks := true }, kinds := [], alts := [], laidByText := true, laidKinds := [.data, .data, .data, .data, .sentinel, .sentinel, .data, .pinned], laidTests := true, laidLooks := .later }
def OrderSaysUptoCardSaid : Prop := Claim7.holds Tryz.pinned (.plain (OpenSpec.upto orderSaysSpec)) orderSaysUptoCard

/-- THE SECOND FORM's CARD OF 'quartermasterlaw.OrderMakes'. -/
def orderMakesUptoCard : Claim7 := { stood := { row := orderMakesUptoRow, standIns := [], harness := (true, "aa6496595a5d1533a86d73155187943fddacfd47665b00170ac10ced83db8886"), looks := true }, kinds := [], alts := [], laidByText := true, laidKinds := [.data, .data, .data, .data, .sentinel, .sentinel, .data, .pinned], laidTests := true, laidLooks := .later }
def OrderMakesUptoCardSaid : Prop := Claim7.holds Tryz.pinned (.plain (OpenSpec.upto orderMakesSpec)) orderMakesUptoCard

/-- THE SECOND FORM's CARD OF 'quartermasterlaw.OrderNone'. -/
def orderNoneUptoCard : Claim7 := { stood := { row := orderNoneUptoRow, standIns := [], harness := (true, "aa6496595a5d1533a86d73155187943fddacfd47665b00170ac10ced83db8886"), looks := true }, kinds := [], alts := [], laidByText := true, laidKinds := [.data, .data, .data, .data, .sentinel, .sentinel, .data, .pinned], laidTests := true, laidLooks := .later }
def OrderNoneUptoCardSaid : Prop := Claim7.holds Tryz.pinned (.plain (OpenSpec.upto orderNoneSpec)) orderNoneUptoCard

/-- THE SECOND FORM's CARD OF 'quartermasterlaw.OrderLeans'. -/
def orderLeansUptoCard : Claim7 := { stood := { row := orderLeansUptoRow, standIns := [], harness := (true, "aa6496595a5d1533a86d73155187943fddacfd47665b00170ac10ced83db8886"), looks := true }, kinds := [], alts := [], laidByText := true, laidKinds := [.data, .data, .data, .data, .sentinel, .sentinel, .data, .pinned], laidTests := true, laidLooks := .later }
def OrderLeansUptoCardSaid : Prop := Claim7.holds Tryz.pinned (.plain (OpenSpec.upto orderLeansSpec)) orderLeansUptoCard

/-- THE SECOND FORM's CARD OF 'quartermasterlaw.OrderFirst'. -/
def orderFirstUptoCard : Claim7 := { stood := { row := orderFirstUptoRow, standIns := [], harness := (true, "aa6496595a5d1533a86d73155187943fddacfd47665b00170ac10ced83db8886"), looks := true }, kinds := [], alts := [], laidByText := true, laidKinds := [.data, .data, .data, .data, .sentinel, .sentinel, .data, .pinned], laidTests := true, laidLooks := .later }
def OrderFirstUptoCardSaid : Prop := Claim7.holds Tryz.pinned (.plain (OpenSpec.upto orderFirstSpec)) orderFirstUptoCard

/-- THE SECOND FORM's CARD OF 'quartermasterlaw.ResolveProves'. -/
def resolveProvesUptoCard : Claim7 := { stood := { row := resolveProvesUptoRow, standIns := [], harness := (true, "aa6496595a5d1533a86d73155187943fddacfd47665b00170ac10ced83db8886"), looks := true }, kinds := [], alts := [], laidByText := true, laidKinds := [.data, .data, .data, .data, .sentinel, .sentinel, .data, .pinned], laidTests := true, laidLooks := .later }
def ResolveProvesUptoCardSaid : Prop := Claim7.holds Tryz.pinned (.plain (OpenSpec.upto resolveProvesSpec)) resolveProvesUptoCard

/-- THE SECOND FORM's CARD OF 'quartermasterlaw.ResolveBest'. -/
def resolveBestUptoCard : Claim7 := { stood := { row := resolveBestUptoRow, standIns := [], harness := (true, "aa6496595a5d1533a86d73155187943fddacfd47665b00170ac10ced83db8886"), looks := true }, kinds := [], alts := [], laidByText := true, laidKinds := [.data, .data, .data, .data, .sentinel, .sentinel, .data, .pinned], laidTests := true, laidLooks := .later }
def ResolveBestUptoCardSaid : Prop := Claim7.holds Tryz.pinned (.plain (OpenSpec.upto resolveBestSpec)) resolveBestUptoCard

/-- THE SECOND FORM's CARD OF 'quartermasterlaw.ResolveUnmasks'. -/
def resolveUnmasksUptoCard : Claim7 := { stood := { row := resolveUnmasksUptoRow, standIns := [], harness := (true, "aa6496595a5d1533a86d73155187943fddacfd47665b00170ac10ced83db8886"), looks := true }, kinds := [], alts := [], laidByText := true, laidKinds := [.data, .data, .data, .data, .sentinel, .sentinel, .data, .pinned], laidTests := true, laidLooks := .later }
def ResolveUnmasksUptoCardSaid : Prop := Claim7.holds Tryz.pinned (.plain (OpenSpec.upto resolveUnmasksSpec)) resolveUnmasksUptoCard

/-- THE SECOND FORM's CARD OF 'quartermasterlaw.ResolveNothing'. -/
def resolveNothingUptoCard : Claim7 := { stood := { row := resolveNothingUptoRow, standIns := [], harness := (true, "aa6496595a5d1533a86d73155187943fddacfd47665b00170ac10ced83db8886"), looks := true }, kinds := [], alts := [], laidByText := true, laidKinds := [.data, .data, .data, .data, .sentinel, .sentinel, .data, .pinned], laidTests := true, laidLooks := .later }
def ResolveNothingUptoCardSaid : Prop := Claim7.holds Tryz.pinned (.plain (OpenSpec.upto resolveNothingSpec)) resolveNothingUptoCard

/-- THE SECOND FORM's CARD OF 'quartermasterlaw.EncodeMeans'. -/
def encodeMeansUptoCard : Claim7 := { stood := { row := encodeMeansUptoRow, standIns := [], harness := (true, "aa6496595a5d1533a86d73155187943fddacfd47665b00170ac10ced83db8886"), looks := true }, kinds := [], alts := [], laidByText := true, laidKinds := [.data, .data, .data, .data, .sentinel, .sentinel, .data, .pinned], laidTests := true, laidLooks := .later }
def EncodeMeansUptoCardSaid : Prop := Claim7.holds Tryz.pinned (.plain (OpenSpec.upto encodeMeansSpec)) encodeMeansUptoCard
end Rows
end Go.Proofs.YtonlloiemgdfkaaGreatDoor
