/-
  NARROWER THAN 'FOR EVERY INPUT', by the rows' own cells (each row's printed sentence says how): ResolveSays: loops, laid · ResolveLess: loops, laid · OrderSays: loops, laid · OrderMakes: loops, laid · OrderNone: loops, laid · OrderLeans: loops, laid · OrderFirst: loops, laid · ResolveProves: loops, laid · ResolveBest: loops, laid · ResolveUnmasks: loops, laid · ResolveNothing: loops, laid · EncodeMeans: loops, laid.
  DERIVED. THE GIVEN ROWS OF THIS SEAT. 12 by the template 'for every input the law returns true; each argument reads behind the call as it read before'; 0 by the template 'total and deterministic' (their statements: YtonlloiemgdfkaaGreatDoorTotals.lean).
  GIVEN WITH THE SEED: the statements are not yours to turn. If you find one false, say at which input.
  Laid BY PROGRAM, IN A SANDBOX (cutbox-rows.mjs): the forced cells as the released guide's own fill.sh prints them over the translation a645c876cd0be49b… (all of the seat's roots in one cut). By AI agents, Wed Nov 11 2026. No macro, syntax, notation, axiom, sorry.
-/
import Derived.Test.YtonlloiemgdfkaaGreatDoorChecked
import GoSem.PinnedTables
import GoSem.Claim
import GoSem.ClaimJoined
import GoSem.ClaimMapViews
import Derived.JoinedTies
import Derived.KernelRfl
namespace Go.Proofs.YtonlloiemgdfkaaGreatDoor
/- THE CELL 'sum', in the pinned program and in every row, IS THE sha256 OF THE DUMP (.gsa) THAT YtonlloiemgdfkaaGreatDoorProg.lean LOADS. Nothing in Lean hashes anything: it is a label: what it is worth is what the hold of that sum in a sandbox is worth. -/
noncomputable def Tryz.pinned : Pinned := { name := "ytonlloiemgdfkaagreatdoor", sum := "a645c876cd0be49bdb617cee9fb92153ed72d1f5f75c57eb134f3cd697be1c42", checked := Tryz.checked }
namespace Rows
def none {H : Type} : Left H := { results := [], args := [] }

/- WHAT THE LISTED PACKAGE-LEVEL VARIABLES READ AS WHEN THE CALL BEGINS. Each datum BY PROGRAM (the guide's laid-datum.mjs) off the statement by which the dump's own 'gosem.cut.vars' lays the variable. In a bare row this is a premise. The card (YtonlloiemgdfkaaGreatDoorCards.lean) ties it to the program's text. -/
def laid_math_bits_deBruijn32tab {H : Type} : DataW H := .agg [.lit (.int .u8 0), .lit (.int .u8 1), .lit (.int .u8 28), .lit (.int .u8 2), .lit (.int .u8 29), .lit (.int .u8 14), .lit (.int .u8 24), .lit (.int .u8 3), .lit (.int .u8 30), .lit (.int .u8 22), .lit (.int .u8 20), .lit (.int .u8 15), .lit (.int .u8 25), .lit (.int .u8 17), .lit (.int .u8 4), .lit (.int .u8 8), .lit (.int .u8 31), .lit (.int .u8 27), .lit (.int .u8 13), .lit (.int .u8 23), .lit (.int .u8 21), .lit (.int .u8 19), .lit (.int .u8 16), .lit (.int .u8 7), .lit (.int .u8 26), .lit (.int .u8 12), .lit (.int .u8 18), .lit (.int .u8 6), .lit (.int .u8 11), .lit (.int .u8 5), .lit (.int .u8 10), .lit (.int .u8 9)]
def laid_math_bits_deBruijn64tab {H : Type} : DataW H := .agg [.lit (.int .u8 0), .lit (.int .u8 1), .lit (.int .u8 56), .lit (.int .u8 2), .lit (.int .u8 57), .lit (.int .u8 49), .lit (.int .u8 28), .lit (.int .u8 3), .lit (.int .u8 61), .lit (.int .u8 58), .lit (.int .u8 42), .lit (.int .u8 50), .lit (.int .u8 38), .lit (.int .u8 29), .lit (.int .u8 17), .lit (.int .u8 4), .lit (.int .u8 62), .lit (.int .u8 47), .lit (.int .u8 59), .lit (.int .u8 36), .lit (.int .u8 45), .lit (.int .u8 43), .lit (.int .u8 51), .lit (.int .u8 22), .lit (.int .u8 53), .lit (.int .u8 39), .lit (.int .u8 33), .lit (.int .u8 30), .lit (.int .u8 24), .lit (.int .u8 18), .lit (.int .u8 12), .lit (.int .u8 5), .lit (.int .u8 63), .lit (.int .u8 55), .lit (.int .u8 48), .lit (.int .u8 27), .lit (.int .u8 60), .lit (.int .u8 41), .lit (.int .u8 37), .lit (.int .u8 16), .lit (.int .u8 46), .lit (.int .u8 35), .lit (.int .u8 44), .lit (.int .u8 21), .lit (.int .u8 52), .lit (.int .u8 32), .lit (.int .u8 23), .lit (.int .u8 11), .lit (.int .u8 54), .lit (.int .u8 26), .lit (.int .u8 40), .lit (.int .u8 15), .lit (.int .u8 34), .lit (.int .u8 20), .lit (.int .u8 31), .lit (.int .u8 10), .lit (.int .u8 25), .lit (.int .u8 14), .lit (.int .u8 19), .lit (.int .u8 9), .lit (.int .u8 13), .lit (.int .u8 8), .lit (.int .u8 7), .lit (.int .u8 6)]
def laid_internal_strconv_uint64pow10 {H : Type} : DataW H := .agg [.lit (.int .u64 1), .lit (.int .u64 10), .lit (.int .u64 100), .lit (.int .u64 1000), .lit (.int .u64 10000), .lit (.int .u64 100000), .lit (.int .u64 1000000), .lit (.int .u64 10000000), .lit (.int .u64 100000000), .lit (.int .u64 1000000000), .lit (.int .u64 10000000000), .lit (.int .u64 100000000000), .lit (.int .u64 1000000000000), .lit (.int .u64 10000000000000), .lit (.int .u64 100000000000000), .lit (.int .u64 1000000000000000), .lit (.int .u64 10000000000000000), .lit (.int .u64 100000000000000000), .lit (.int .u64 1000000000000000000), .lit (.int .u64 10000000000000000000)]
def laid_unicode_utf8_acceptRanges {H : Type} : DataW H := .agg [.agg [.lit (.int .u8 128), .lit (.int .u8 191)], .agg [.lit (.int .u8 160), .lit (.int .u8 191)], .agg [.lit (.int .u8 128), .lit (.int .u8 159)], .agg [.lit (.int .u8 144), .lit (.int .u8 191)], .agg [.lit (.int .u8 128), .lit (.int .u8 143)], .agg [.lit (.int .u8 0), .lit (.int .u8 0)], .agg [.lit (.int .u8 0), .lit (.int .u8 0)], .agg [.lit (.int .u8 0), .lit (.int .u8 0)], .agg [.lit (.int .u8 0), .lit (.int .u8 0)], .agg [.lit (.int .u8 0), .lit (.int .u8 0)], .agg [.lit (.int .u8 0), .lit (.int .u8 0)], .agg [.lit (.int .u8 0), .lit (.int .u8 0)], .agg [.lit (.int .u8 0), .lit (.int .u8 0)], .agg [.lit (.int .u8 0), .lit (.int .u8 0)], .agg [.lit (.int .u8 0), .lit (.int .u8 0)], .agg [.lit (.int .u8 0), .lit (.int .u8 0)]]
def laid_strconv_ErrRange {H : Type} : DataW H := .iface "*errors.errorString" (.ptr (.agg [.lit (.string [118, 97, 108, 117, 101, 32, 111, 117, 116, 32, 111, 102, 32, 114, 97, 110, 103, 101])]))
def laid_strconv_ErrSyntax {H : Type} : DataW H := .iface "*errors.errorString" (.ptr (.agg [.lit (.string [105, 110, 118, 97, 108, 105, 100, 32, 115, 121, 110, 116, 97, 120])]))
def laid_quartermaster_atom_signs {H : Type} : DataW H := .agg [.lit (.string []), .lit (.string [61]), .lit (.string [62, 61]), .lit (.string [60])]
/-- One of Go's own tables, pinned by name: the form's constant. -/
def laid_unicode_utf8_first : DataW Unit := Go.Pinned.utf8First

/-- 'quartermasterlaw.ResolveSays': WHATEVER THE INPUT: true; the input reads as it did. -/
def resolveSaysSpec : ChangeSpec := { name := "resolveSays", fn := fun _ => fun
  | [d1, d2] => { results := [.lit (.bool true)], args := [d1, d2] }
  | _ => none }
def resolveSaysRow : OpenClaim := { program := "ytonlloiemgdfkaagreatdoor", sum := "a645c876cd0be49bdb617cee9fb92153ed72d1f5f75c57eb134f3cd697be1c42", func := "quartermaster/quartermasterlaw.ResolveSays", spec := "resolveSays", inPlace := ["internal/bytealg.IndexByteString", "internal/bytealg.IndexString", "internal/bytealg.CountString"], unfollowed := true, recurses := true, named := ["internal/bytealg.MaxLen", "unicode/utf8.first", "unicode/utf8.acceptRanges", "strconv.ErrSyntax", "strconv.ErrRange", "internal/strconv.uint64pow10", "math/bits.deBruijn32tab", "math/bits.deBruijn64tab", "quartermaster/atom.signs"], loops := true, plainKeys := false, apart := false, laid := [("math/bits.deBruijn32tab", laid_math_bits_deBruijn32tab), ("math/bits.deBruijn64tab", laid_math_bits_deBruijn64tab), ("internal/strconv.uint64pow10", laid_internal_strconv_uint64pow10), ("unicode/utf8.acceptRanges", laid_unicode_utf8_acceptRanges), ("strconv.ErrRange", laid_strconv_ErrRange), ("strconv.ErrSyntax", laid_strconv_ErrSyntax), ("quartermaster/atom.signs", laid_quartermaster_atom_signs), ("unicode/utf8.first", laid_unicode_utf8_first)] }
def ResolveSaysSaid : Prop := resolveSaysRow.holds Tryz.pinned (OpenSpec.ofChange resolveSaysSpec)

/-- ITS FALSE NEIGHBOUR: 'it returns false'. Refute it at one input. -/
def resolveSaysWrong : ChangeSpec := { name := "resolveSays", fn := fun _ => fun
  | [d1, d2] => { results := [.lit (.bool false)], args := [d1, d2] }
  | _ => none }
def ResolveSaysWrongFalsely : Prop := resolveSaysRow.holds Tryz.pinned (OpenSpec.ofChange resolveSaysWrong)

/-- 'quartermasterlaw.ResolveLess': WHATEVER THE INPUT: true; the input reads as it did. -/
def resolveLessSpec : ChangeSpec := { name := "resolveLess", fn := fun _ => fun
  | [d1, d2] => { results := [.lit (.bool true)], args := [d1, d2] }
  | _ => none }
def resolveLessRow : OpenClaim := { program := "ytonlloiemgdfkaagreatdoor", sum := "a645c876cd0be49bdb617cee9fb92153ed72d1f5f75c57eb134f3cd697be1c42", func := "quartermaster/quartermasterlaw.ResolveLess", spec := "resolveLess", inPlace := ["internal/bytealg.IndexByteString", "internal/bytealg.IndexString", "internal/bytealg.CountString"], unfollowed := true, recurses := true, named := ["internal/bytealg.MaxLen", "unicode/utf8.first", "unicode/utf8.acceptRanges", "strconv.ErrSyntax", "strconv.ErrRange", "internal/strconv.uint64pow10", "math/bits.deBruijn32tab", "math/bits.deBruijn64tab", "quartermaster/atom.signs"], loops := true, plainKeys := false, apart := false, laid := [("math/bits.deBruijn32tab", laid_math_bits_deBruijn32tab), ("math/bits.deBruijn64tab", laid_math_bits_deBruijn64tab), ("internal/strconv.uint64pow10", laid_internal_strconv_uint64pow10), ("unicode/utf8.acceptRanges", laid_unicode_utf8_acceptRanges), ("strconv.ErrRange", laid_strconv_ErrRange), ("strconv.ErrSyntax", laid_strconv_ErrSyntax), ("quartermaster/atom.signs", laid_quartermaster_atom_signs), ("unicode/utf8.first", laid_unicode_utf8_first)] }
def ResolveLessSaid : Prop := resolveLessRow.holds Tryz.pinned (OpenSpec.ofChange resolveLessSpec)

/-- ITS FALSE NEIGHBOUR: 'it returns false'. Refute it at one input. -/
def resolveLessWrong : ChangeSpec := { name := "resolveLess", fn := fun _ => fun
  | [d1, d2] => { results := [.lit (.bool false)], args := [d1, d2] }
  | _ => none }
def ResolveLessWrongFalsely : Prop := resolveLessRow.holds Tryz.pinned (OpenSpec.ofChange resolveLessWrong)

/-- 'quartermasterlaw.OrderSays': WHATEVER THE INPUT: true; the input reads as it did. -/
def orderSaysSpec : ChangeSpec := { name := "orderSays", fn := fun _ => fun
  | [d1, d2, d3] => { results := [.lit (.bool true)], args := [d1, d2, d3] }
  | _ => none }
def orderSaysRow : OpenClaim := { program := "ytonlloiemgdfkaagreatdoor", sum := "a645c876cd0be49bdb617cee9fb92153ed72d1f5f75c57eb134f3cd697be1c42", func := "quartermaster/quartermasterlaw.OrderSays", spec := "orderSays", inPlace := ["internal/bytealg.IndexByteString", "internal/bytealg.IndexString", "internal/bytealg.CountString"], unfollowed := true, recurses := true, named := ["internal/bytealg.MaxLen", "unicode/utf8.first", "unicode/utf8.acceptRanges", "strconv.ErrSyntax", "strconv.ErrRange", "internal/strconv.uint64pow10", "math/bits.deBruijn32tab", "math/bits.deBruijn64tab", "quartermaster/atom.signs"], loops := true, plainKeys := false, apart := false, laid := [("math/bits.deBruijn32tab", laid_math_bits_deBruijn32tab), ("math/bits.deBruijn64tab", laid_math_bits_deBruijn64tab), ("internal/strconv.uint64pow10", laid_internal_strconv_uint64pow10), ("unicode/utf8.acceptRanges", laid_unicode_utf8_acceptRanges), ("strconv.ErrRange", laid_strconv_ErrRange), ("strconv.ErrSyntax", laid_strconv_ErrSyntax), ("quartermaster/atom.signs", laid_quartermaster_atom_signs), ("unicode/utf8.first", laid_unicode_utf8_first)] }
def OrderSaysSaid : Prop := orderSaysRow.holds Tryz.pinned (OpenSpec.ofChange orderSaysSpec)

/-- ITS FALSE NEIGHBOUR: 'it returns false'. Refute it at one input. -/
def orderSaysWrong : ChangeSpec := { name := "orderSays", fn := fun _ => fun
  | [d1, d2, d3] => { results := [.lit (.bool false)], args := [d1, d2, d3] }
  | _ => none }
def OrderSaysWrongFalsely : Prop := orderSaysRow.holds Tryz.pinned (OpenSpec.ofChange orderSaysWrong)

/-- 'quartermasterlaw.OrderMakes': WHATEVER THE INPUT: true; the input reads as it did. -/
def orderMakesSpec : ChangeSpec := { name := "orderMakes", fn := fun _ => fun
  | [d1, d2, d3] => { results := [.lit (.bool true)], args := [d1, d2, d3] }
  | _ => none }
def orderMakesRow : OpenClaim := { program := "ytonlloiemgdfkaagreatdoor", sum := "a645c876cd0be49bdb617cee9fb92153ed72d1f5f75c57eb134f3cd697be1c42", func := "quartermaster/quartermasterlaw.OrderMakes", spec := "orderMakes", inPlace := ["internal/bytealg.IndexByteString", "internal/bytealg.IndexString", "internal/bytealg.CountString"], unfollowed := true, recurses := true, named := ["internal/bytealg.MaxLen", "unicode/utf8.first", "unicode/utf8.acceptRanges", "strconv.ErrSyntax", "strconv.ErrRange", "internal/strconv.uint64pow10", "math/bits.deBruijn32tab", "math/bits.deBruijn64tab", "quartermaster/atom.signs"], loops := true, plainKeys := false, apart := false, laid := [("math/bits.deBruijn32tab", laid_math_bits_deBruijn32tab), ("math/bits.deBruijn64tab", laid_math_bits_deBruijn64tab), ("internal/strconv.uint64pow10", laid_internal_strconv_uint64pow10), ("unicode/utf8.acceptRanges", laid_unicode_utf8_acceptRanges), ("strconv.ErrRange", laid_strconv_ErrRange), ("strconv.ErrSyntax", laid_strconv_ErrSyntax), ("quartermaster/atom.signs", laid_quartermaster_atom_signs), ("unicode/utf8.first", laid_unicode_utf8_first)] }
def OrderMakesSaid : Prop := orderMakesRow.holds Tryz.pinned (OpenSpec.ofChange orderMakesSpec)

/-- ITS FALSE NEIGHBOUR: 'it returns false'. Refute it at one input. -/
def orderMakesWrong : ChangeSpec := { name := "orderMakes", fn := fun _ => fun
  | [d1, d2, d3] => { results := [.lit (.bool false)], args := [d1, d2, d3] }
  | _ => none }
def OrderMakesWrongFalsely : Prop := orderMakesRow.holds Tryz.pinned (OpenSpec.ofChange orderMakesWrong)

/-- 'quartermasterlaw.OrderNone': WHATEVER THE INPUT: true; the input reads as it did. -/
def orderNoneSpec : ChangeSpec := { name := "orderNone", fn := fun _ => fun
  | [d1, d2] => { results := [.lit (.bool true)], args := [d1, d2] }
  | _ => none }
def orderNoneRow : OpenClaim := { program := "ytonlloiemgdfkaagreatdoor", sum := "a645c876cd0be49bdb617cee9fb92153ed72d1f5f75c57eb134f3cd697be1c42", func := "quartermaster/quartermasterlaw.OrderNone", spec := "orderNone", inPlace := ["internal/bytealg.IndexByteString", "internal/bytealg.IndexString", "internal/bytealg.CountString"], unfollowed := true, recurses := true, named := ["internal/bytealg.MaxLen", "unicode/utf8.first", "unicode/utf8.acceptRanges", "strconv.ErrSyntax", "strconv.ErrRange", "internal/strconv.uint64pow10", "math/bits.deBruijn32tab", "math/bits.deBruijn64tab", "quartermaster/atom.signs"], loops := true, plainKeys := false, apart := false, laid := [("math/bits.deBruijn32tab", laid_math_bits_deBruijn32tab), ("math/bits.deBruijn64tab", laid_math_bits_deBruijn64tab), ("internal/strconv.uint64pow10", laid_internal_strconv_uint64pow10), ("unicode/utf8.acceptRanges", laid_unicode_utf8_acceptRanges), ("strconv.ErrRange", laid_strconv_ErrRange), ("strconv.ErrSyntax", laid_strconv_ErrSyntax), ("quartermaster/atom.signs", laid_quartermaster_atom_signs), ("unicode/utf8.first", laid_unicode_utf8_first)] }
def OrderNoneSaid : Prop := orderNoneRow.holds Tryz.pinned (OpenSpec.ofChange orderNoneSpec)

/-- ITS FALSE NEIGHBOUR: 'it returns false'. Refute it at one input. -/
def orderNoneWrong : ChangeSpec := { name := "orderNone", fn := fun _ => fun
  | [d1, d2] => { results := [.lit (.bool false)], args := [d1, d2] }
  | _ => none }
def OrderNoneWrongFalsely : Prop := orderNoneRow.holds Tryz.pinned (OpenSpec.ofChange orderNoneWrong)

/-- 'quartermasterlaw.OrderLeans': WHATEVER THE INPUT: true; the input reads as it did. -/
def orderLeansSpec : ChangeSpec := { name := "orderLeans", fn := fun _ => fun
  | [d1, d2] => { results := [.lit (.bool true)], args := [d1, d2] }
  | _ => none }
def orderLeansRow : OpenClaim := { program := "ytonlloiemgdfkaagreatdoor", sum := "a645c876cd0be49bdb617cee9fb92153ed72d1f5f75c57eb134f3cd697be1c42", func := "quartermaster/quartermasterlaw.OrderLeans", spec := "orderLeans", inPlace := ["internal/bytealg.IndexByteString", "internal/bytealg.IndexString", "internal/bytealg.CountString"], unfollowed := true, recurses := true, named := ["internal/bytealg.MaxLen", "unicode/utf8.first", "unicode/utf8.acceptRanges", "strconv.ErrSyntax", "strconv.ErrRange", "internal/strconv.uint64pow10", "math/bits.deBruijn32tab", "math/bits.deBruijn64tab", "quartermaster/atom.signs"], loops := true, plainKeys := false, apart := false, laid := [("math/bits.deBruijn32tab", laid_math_bits_deBruijn32tab), ("math/bits.deBruijn64tab", laid_math_bits_deBruijn64tab), ("internal/strconv.uint64pow10", laid_internal_strconv_uint64pow10), ("unicode/utf8.acceptRanges", laid_unicode_utf8_acceptRanges), ("strconv.ErrRange", laid_strconv_ErrRange), ("strconv.ErrSyntax", laid_strconv_ErrSyntax), ("quartermaster/atom.signs", laid_quartermaster_atom_signs), ("unicode/utf8.first", laid_unicode_utf8_first)] }
def OrderLeansSaid : Prop := orderLeansRow.holds Tryz.pinned (OpenSpec.ofChange orderLeansSpec)

/-- ITS FALSE NEIGHBOUR: 'it returns false'. Refute it at one input. -/
def orderLeansWrong : ChangeSpec := { name := "orderLeans", fn := fun _ => fun
  | [d1, d2] => { results := [.lit (.bool false)], args := [d1, d2] }
  | _ => none }
def OrderLeansWrongFalsely : Prop := orderLeansRow.holds Tryz.pinned (OpenSpec.ofChange orderLeansWrong)

/-- 'quartermasterlaw.OrderFirst': WHATEVER THE INPUT: true; the input reads as it did. -/
def orderFirstSpec : ChangeSpec := { name := "orderFirst", fn := fun _ => fun
  | [d1, d2, d3] => { results := [.lit (.bool true)], args := [d1, d2, d3] }
  | _ => none }
def orderFirstRow : OpenClaim := { program := "ytonlloiemgdfkaagreatdoor", sum := "a645c876cd0be49bdb617cee9fb92153ed72d1f5f75c57eb134f3cd697be1c42", func := "quartermaster/quartermasterlaw.OrderFirst", spec := "orderFirst", inPlace := ["internal/bytealg.IndexByteString", "internal/bytealg.IndexString", "internal/bytealg.CountString"], unfollowed := true, recurses := true, named := ["internal/bytealg.MaxLen", "unicode/utf8.first", "unicode/utf8.acceptRanges", "strconv.ErrSyntax", "strconv.ErrRange", "internal/strconv.uint64pow10", "math/bits.deBruijn32tab", "math/bits.deBruijn64tab", "quartermaster/atom.signs"], loops := true, plainKeys := false, apart := false, laid := [("math/bits.deBruijn32tab", laid_math_bits_deBruijn32tab), ("math/bits.deBruijn64tab", laid_math_bits_deBruijn64tab), ("internal/strconv.uint64pow10", laid_internal_strconv_uint64pow10), ("unicode/utf8.acceptRanges", laid_unicode_utf8_acceptRanges), ("strconv.ErrRange", laid_strconv_ErrRange), ("strconv.ErrSyntax", laid_strconv_ErrSyntax), ("quartermaster/atom.signs", laid_quartermaster_atom_signs), ("unicode/utf8.first", laid_unicode_utf8_first)] }
def OrderFirstSaid : Prop := orderFirstRow.holds Tryz.pinned (OpenSpec.ofChange orderFirstSpec)

/-- ITS FALSE NEIGHBOUR: 'it returns false'. Refute it at one input. -/
def orderFirstWrong : ChangeSpec := { name := "orderFirst", fn := fun _ => fun
  | [d1, d2, d3] => { results := [.lit (.bool false)], args := [d1, d2, d3] }
  | _ => none }
def OrderFirstWrongFalsely : Prop := orderFirstRow.holds Tryz.pinned (OpenSpec.ofChange orderFirstWrong)

/-- 'quartermasterlaw.ResolveProves': WHATEVER THE INPUT: true; the input reads as it did. -/
def resolveProvesSpec : ChangeSpec := { name := "resolveProves", fn := fun _ => fun
  | [d1, d2, d3, d4] => { results := [.lit (.bool true)], args := [d1, d2, d3, d4] }
  | _ => none }
def resolveProvesRow : OpenClaim := { program := "ytonlloiemgdfkaagreatdoor", sum := "a645c876cd0be49bdb617cee9fb92153ed72d1f5f75c57eb134f3cd697be1c42", func := "quartermaster/quartermasterlaw.ResolveProves", spec := "resolveProves", inPlace := ["internal/bytealg.IndexByteString", "internal/bytealg.IndexString", "internal/bytealg.CountString"], unfollowed := true, recurses := true, named := ["internal/bytealg.MaxLen", "unicode/utf8.first", "unicode/utf8.acceptRanges", "strconv.ErrSyntax", "strconv.ErrRange", "internal/strconv.uint64pow10", "math/bits.deBruijn32tab", "math/bits.deBruijn64tab", "quartermaster/atom.signs"], loops := true, plainKeys := false, apart := false, laid := [("math/bits.deBruijn32tab", laid_math_bits_deBruijn32tab), ("math/bits.deBruijn64tab", laid_math_bits_deBruijn64tab), ("internal/strconv.uint64pow10", laid_internal_strconv_uint64pow10), ("unicode/utf8.acceptRanges", laid_unicode_utf8_acceptRanges), ("strconv.ErrRange", laid_strconv_ErrRange), ("strconv.ErrSyntax", laid_strconv_ErrSyntax), ("quartermaster/atom.signs", laid_quartermaster_atom_signs), ("unicode/utf8.first", laid_unicode_utf8_first)] }
def ResolveProvesSaid : Prop := resolveProvesRow.holds Tryz.pinned (OpenSpec.ofChange resolveProvesSpec)

/-- ITS FALSE NEIGHBOUR: 'it returns false'. Refute it at one input. -/
def resolveProvesWrong : ChangeSpec := { name := "resolveProves", fn := fun _ => fun
  | [d1, d2, d3, d4] => { results := [.lit (.bool false)], args := [d1, d2, d3, d4] }
  | _ => none }
def ResolveProvesWrongFalsely : Prop := resolveProvesRow.holds Tryz.pinned (OpenSpec.ofChange resolveProvesWrong)

/-- 'quartermasterlaw.ResolveBest': WHATEVER THE INPUT: true; the input reads as it did. -/
def resolveBestSpec : ChangeSpec := { name := "resolveBest", fn := fun _ => fun
  | [d1, d2, d3] => { results := [.lit (.bool true)], args := [d1, d2, d3] }
  | _ => none }
def resolveBestRow : OpenClaim := { program := "ytonlloiemgdfkaagreatdoor", sum := "a645c876cd0be49bdb617cee9fb92153ed72d1f5f75c57eb134f3cd697be1c42", func := "quartermaster/quartermasterlaw.ResolveBest", spec := "resolveBest", inPlace := ["internal/bytealg.IndexByteString", "internal/bytealg.IndexString", "internal/bytealg.CountString"], unfollowed := true, recurses := true, named := ["internal/bytealg.MaxLen", "unicode/utf8.first", "unicode/utf8.acceptRanges", "strconv.ErrSyntax", "strconv.ErrRange", "internal/strconv.uint64pow10", "math/bits.deBruijn32tab", "math/bits.deBruijn64tab", "quartermaster/atom.signs"], loops := true, plainKeys := false, apart := false, laid := [("math/bits.deBruijn32tab", laid_math_bits_deBruijn32tab), ("math/bits.deBruijn64tab", laid_math_bits_deBruijn64tab), ("internal/strconv.uint64pow10", laid_internal_strconv_uint64pow10), ("unicode/utf8.acceptRanges", laid_unicode_utf8_acceptRanges), ("strconv.ErrRange", laid_strconv_ErrRange), ("strconv.ErrSyntax", laid_strconv_ErrSyntax), ("quartermaster/atom.signs", laid_quartermaster_atom_signs), ("unicode/utf8.first", laid_unicode_utf8_first)] }
def ResolveBestSaid : Prop := resolveBestRow.holds Tryz.pinned (OpenSpec.ofChange resolveBestSpec)

/-- ITS FALSE NEIGHBOUR: 'it returns false'. Refute it at one input. -/
def resolveBestWrong : ChangeSpec := { name := "resolveBest", fn := fun _ => fun
  | [d1, d2, d3] => { results := [.lit (.bool false)], args := [d1, d2, d3] }
  | _ => none }
def ResolveBestWrongFalsely : Prop := resolveBestRow.holds Tryz.pinned (OpenSpec.ofChange resolveBestWrong)

/-- 'quartermasterlaw.ResolveUnmasks': WHATEVER THE INPUT: true; the input reads as it did. -/
def resolveUnmasksSpec : ChangeSpec := { name := "resolveUnmasks", fn := fun _ => fun
  | [d1, d2] => { results := [.lit (.bool true)], args := [d1, d2] }
  | _ => none }
def resolveUnmasksRow : OpenClaim := { program := "ytonlloiemgdfkaagreatdoor", sum := "a645c876cd0be49bdb617cee9fb92153ed72d1f5f75c57eb134f3cd697be1c42", func := "quartermaster/quartermasterlaw.ResolveUnmasks", spec := "resolveUnmasks", inPlace := ["internal/bytealg.IndexByteString", "internal/bytealg.IndexString", "internal/bytealg.CountString"], unfollowed := true, recurses := true, named := ["internal/bytealg.MaxLen", "unicode/utf8.first", "unicode/utf8.acceptRanges", "strconv.ErrSyntax", "strconv.ErrRange", "internal/strconv.uint64pow10", "math/bits.deBruijn32tab", "math/bits.deBruijn64tab", "quartermaster/atom.signs"], loops := true, plainKeys := false, apart := false, laid := [("math/bits.deBruijn32tab", laid_math_bits_deBruijn32tab), ("math/bits.deBruijn64tab", laid_math_bits_deBruijn64tab), ("internal/strconv.uint64pow10", laid_internal_strconv_uint64pow10), ("unicode/utf8.acceptRanges", laid_unicode_utf8_acceptRanges), ("strconv.ErrRange", laid_strconv_ErrRange), ("strconv.ErrSyntax", laid_strconv_ErrSyntax), ("quartermaster/atom.signs", laid_quartermaster_atom_signs), ("unicode/utf8.first", laid_unicode_utf8_first)] }
def ResolveUnmasksSaid : Prop := resolveUnmasksRow.holds Tryz.pinned (OpenSpec.ofChange resolveUnmasksSpec)

/-- ITS FALSE NEIGHBOUR: 'it returns false'. Refute it at one input. -/
def resolveUnmasksWrong : ChangeSpec := { name := "resolveUnmasks", fn := fun _ => fun
  | [d1, d2] => { results := [.lit (.bool false)], args := [d1, d2] }
  | _ => none }
def ResolveUnmasksWrongFalsely : Prop := resolveUnmasksRow.holds Tryz.pinned (OpenSpec.ofChange resolveUnmasksWrong)

/-- 'quartermasterlaw.ResolveNothing': WHATEVER THE INPUT: true; the input reads as it did. -/
def resolveNothingSpec : ChangeSpec := { name := "resolveNothing", fn := fun _ => fun
  | [d1, d2] => { results := [.lit (.bool true)], args := [d1, d2] }
  | _ => none }
def resolveNothingRow : OpenClaim := { program := "ytonlloiemgdfkaagreatdoor", sum := "a645c876cd0be49bdb617cee9fb92153ed72d1f5f75c57eb134f3cd697be1c42", func := "quartermaster/quartermasterlaw.ResolveNothing", spec := "resolveNothing", inPlace := ["internal/bytealg.IndexByteString", "internal/bytealg.IndexString", "internal/bytealg.CountString"], unfollowed := true, recurses := true, named := ["internal/bytealg.MaxLen", "unicode/utf8.first", "unicode/utf8.acceptRanges", "strconv.ErrSyntax", "strconv.ErrRange", "internal/strconv.uint64pow10", "math/bits.deBruijn32tab", "math/bits.deBruijn64tab", "quartermaster/atom.signs"], loops := true, plainKeys := false, apart := false, laid := [("math/bits.deBruijn32tab", laid_math_bits_deBruijn32tab), ("math/bits.deBruijn64tab", laid_math_bits_deBruijn64tab), ("internal/strconv.uint64pow10", laid_internal_strconv_uint64pow10), ("unicode/utf8.acceptRanges", laid_unicode_utf8_acceptRanges), ("strconv.ErrRange", laid_strconv_ErrRange), ("strconv.ErrSyntax", laid_strconv_ErrSyntax), ("quartermaster/atom.signs", laid_quartermaster_atom_signs), ("unicode/utf8.first", laid_unicode_utf8_first)] }
def ResolveNothingSaid : Prop := resolveNothingRow.holds Tryz.pinned (OpenSpec.ofChange resolveNothingSpec)

/-- ITS FALSE NEIGHBOUR: 'it returns false'. Refute it at one input. -/
def resolveNothingWrong : ChangeSpec := { name := "resolveNothing", fn := fun _ => fun
  | [d1, d2] => { results := [.lit (.bool false)], args := [d1, d2] }
  | _ => none }
def ResolveNothingWrongFalsely : Prop := resolveNothingRow.holds Tryz.pinned (OpenSpec.ofChange resolveNothingWrong)

/-- 'quartermasterlaw.EncodeMeans': WHATEVER THE INPUT: true; the input reads as it did. -/
def encodeMeansSpec : ChangeSpec := { name := "encodeMeans", fn := fun _ => fun
  | [d1, d2, d3, d4] => { results := [.lit (.bool true)], args := [d1, d2, d3, d4] }
  | _ => none }
def encodeMeansRow : OpenClaim := { program := "ytonlloiemgdfkaagreatdoor", sum := "a645c876cd0be49bdb617cee9fb92153ed72d1f5f75c57eb134f3cd697be1c42", func := "quartermaster/quartermasterlaw.EncodeMeans", spec := "encodeMeans", inPlace := ["internal/bytealg.IndexByteString", "internal/bytealg.IndexString", "internal/bytealg.CountString"], unfollowed := true, recurses := true, named := ["internal/bytealg.MaxLen", "unicode/utf8.first", "unicode/utf8.acceptRanges", "strconv.ErrSyntax", "strconv.ErrRange", "internal/strconv.uint64pow10", "math/bits.deBruijn32tab", "math/bits.deBruijn64tab", "quartermaster/atom.signs"], loops := true, plainKeys := false, apart := false, laid := [("math/bits.deBruijn32tab", laid_math_bits_deBruijn32tab), ("math/bits.deBruijn64tab", laid_math_bits_deBruijn64tab), ("internal/strconv.uint64pow10", laid_internal_strconv_uint64pow10), ("unicode/utf8.acceptRanges", laid_unicode_utf8_acceptRanges), ("strconv.ErrRange", laid_strconv_ErrRange), ("strconv.ErrSyntax", laid_strconv_ErrSyntax), ("quartermaster/atom.signs", laid_quartermaster_atom_signs), ("unicode/utf8.first", laid_unicode_utf8_first)] }
def EncodeMeansSaid : Prop := encodeMeansRow.holds Tryz.pinned (OpenSpec.ofChange encodeMeansSpec)

/-- ITS FALSE NEIGHBOUR: 'it returns false'. Refute it at one input. -/
def encodeMeansWrong : ChangeSpec := { name := "encodeMeans", fn := fun _ => fun
  | [d1, d2, d3, d4] => { results := [.lit (.bool false)], args := [d1, d2, d3, d4] }
  | _ => none }
def EncodeMeansWrongFalsely : Prop := encodeMeansRow.holds Tryz.pinned (OpenSpec.ofChange encodeMeansWrong)

/- THE SECOND FORM. 'bulk': how many values and letters a reading holds, each counted each time it is reached (what is shared counts as often as it is met; a slice's spare places count too). A statement '..UptoSaid' is the law's where the arguments, and the package variables that the reading takes, are together of bulk at most 1048576: NARROWER than '..Said'. Prove '..Said' where nothing that the law and all that it calls make is longer than what came in: it says more and counts as full. Else prove '..UptoSaid'. A law counts once. -/
mutual
def uptoBulk {H : Type} : DataW H → Nat
  | .lit (.string bytes) => bytes.length + 1
  | .lit _ => 1
  | .nil => 1
  | .ptr d => uptoBulk d + 1
  | .slice elems spare => uptoBulkAll elems + uptoBulkAll spare + 1
  | .agg parts => uptoBulkAll parts + 1
  | .iface _ d => uptoBulk d + 1
  | .map entries => uptoBulkEntries entries + 1
  | .held _ => 1
def uptoBulkAll {H : Type} : List (DataW H) → Nat
  | [] => 0
  | d :: r => uptoBulk d + uptoBulkAll r
def uptoBulkEntries {H : Type} : List (Lit × DataW H) → Nat
  | [] => 0
  | x :: r => uptoBulkEntry x + uptoBulkEntries r
def uptoBulkEntry {H : Type} : Lit × DataW H → Nat
  | (.string bytes, d) => bytes.length + uptoBulk d + 1
  | (_, d) => uptoBulk d + 1
 end
def uptoSmall : (H : Type) → List (DataW H) → Bool := fun _ ds => decide (uptoBulkAll ds ≤ 1048576)
def OpenSpec.upto (s : _root_.Go.ChangeSpec) : _root_.Go.OpenSpec := { _root_.Go.OpenSpec.ofChange s with cond := some uptoSmall }

/-- 'quartermasterlaw.ResolveSays', WHERE WHAT IT READS IS OF BULK AT MOST 1048576: true; the input reads as it did. -/
def resolveSaysUptoRow : OpenClaim := { program := "ytonlloiemgdfkaagreatdoor", sum := "a645c876cd0be49bdb617cee9fb92153ed72d1f5f75c57eb134f3cd697be1c42", func := "quartermaster/quartermasterlaw.ResolveSays", spec := "resolveSays", inPlace := ["internal/bytealg.IndexByteString", "internal/bytealg.IndexString", "internal/bytealg.CountString"], unfollowed := true, recurses := true, named := ["internal/bytealg.MaxLen", "unicode/utf8.first", "unicode/utf8.acceptRanges", "strconv.ErrSyntax", "strconv.ErrRange", "internal/strconv.uint64pow10", "math/bits.deBruijn32tab", "math/bits.deBruijn64tab", "quartermaster/atom.signs"], loops := true, plainKeys := false, apart := false, laid := [("math/bits.deBruijn32tab", laid_math_bits_deBruijn32tab), ("math/bits.deBruijn64tab", laid_math_bits_deBruijn64tab), ("internal/strconv.uint64pow10", laid_internal_strconv_uint64pow10), ("unicode/utf8.acceptRanges", laid_unicode_utf8_acceptRanges), ("strconv.ErrRange", laid_strconv_ErrRange), ("strconv.ErrSyntax", laid_strconv_ErrSyntax), ("quartermaster/atom.signs", laid_quartermaster_atom_signs), ("unicode/utf8.first", laid_unicode_utf8_first)], narrowed := true }
def ResolveSaysUptoSaid : Prop := resolveSaysUptoRow.holds Tryz.pinned (OpenSpec.upto resolveSaysSpec)

/-- 'quartermasterlaw.ResolveLess', WHERE WHAT IT READS IS OF BULK AT MOST 1048576: true; the input reads as it did. -/
def resolveLessUptoRow : OpenClaim := { program := "ytonlloiemgdfkaagreatdoor", sum := "a645c876cd0be49bdb617cee9fb92153ed72d1f5f75c57eb134f3cd697be1c42", func := "quartermaster/quartermasterlaw.ResolveLess", spec := "resolveLess", inPlace := ["internal/bytealg.IndexByteString", "internal/bytealg.IndexString", "internal/bytealg.CountString"], unfollowed := true, recurses := true, named := ["internal/bytealg.MaxLen", "unicode/utf8.first", "unicode/utf8.acceptRanges", "strconv.ErrSyntax", "strconv.ErrRange", "internal/strconv.uint64pow10", "math/bits.deBruijn32tab", "math/bits.deBruijn64tab", "quartermaster/atom.signs"], loops := true, plainKeys := false, apart := false, laid := [("math/bits.deBruijn32tab", laid_math_bits_deBruijn32tab), ("math/bits.deBruijn64tab", laid_math_bits_deBruijn64tab), ("internal/strconv.uint64pow10", laid_internal_strconv_uint64pow10), ("unicode/utf8.acceptRanges", laid_unicode_utf8_acceptRanges), ("strconv.ErrRange", laid_strconv_ErrRange), ("strconv.ErrSyntax", laid_strconv_ErrSyntax), ("quartermaster/atom.signs", laid_quartermaster_atom_signs), ("unicode/utf8.first", laid_unicode_utf8_first)], narrowed := true }
def ResolveLessUptoSaid : Prop := resolveLessUptoRow.holds Tryz.pinned (OpenSpec.upto resolveLessSpec)

/-- 'quartermasterlaw.OrderSays', WHERE WHAT IT READS IS OF BULK AT MOST 1048576: true; the input reads as it did. -/
def orderSaysUptoRow : OpenClaim := { program := "ytonlloiemgdfkaagreatdoor", sum := "a645c876cd0be49bdb617cee9fb92153ed72d1f5f75c57eb134f3cd697be1c42", func := "quartermaster/quartermasterlaw.OrderSays", spec := "orderSays", inPlace := ["internal/bytealg.IndexByteString", "internal/bytealg.IndexString", "internal/bytealg.CountString"], unfollowed := true, recurses := true, named := ["internal/bytealg.MaxLen", "unicode/utf8.first", "unicode/utf8.acceptRanges", "strconv.ErrSyntax", "strconv.ErrRange", "internal/strconv.uint64pow10", "math/bits.deBruijn32tab", "math/bits.deBruijn64tab", "quartermaster/atom.signs"], loops := true, plainKeys := false, apart := false, laid := [("math/bits.deBruijn32tab", laid_math_bits_deBruijn32tab), ("math/bits.deBruijn64tab", laid_math_bits_deBruijn64tab), ("internal/strconv.uint64pow10", laid_internal_strconv_uint64pow10), ("unicode/utf8.acceptRanges", laid_unicode_utf8_acceptRanges), ("strconv.ErrRange", laid_strconv_ErrRange), ("strconv.ErrSyntax", laid_strconv_ErrSyntax), ("quartermaster/atom.signs", laid_quartermaster_atom_signs), ("unicode/utf8.first", laid_unicode_utf8_first)], narrowed := true }
def OrderSaysUptoSaid : Prop := orderSaysUptoRow.holds Tryz.pinned (OpenSpec.upto orderSaysSpec)

/-- 'quartermasterlaw.OrderMakes', WHERE WHAT IT READS IS OF BULK AT MOST 1048576: true; the input reads as it did. -/
def orderMakesUptoRow : OpenClaim := { program := "ytonlloiemgdfkaagreatdoor", sum := "a645c876cd0be49bdb617cee9fb92153ed72d1f5f75c57eb134f3cd697be1c42", func := "quartermaster/quartermasterlaw.OrderMakes", spec := "orderMakes", inPlace := ["internal/bytealg.IndexByteString", "internal/bytealg.IndexString", "internal/bytealg.CountString"], unfollowed := true, recurses := true, named := ["internal/bytealg.MaxLen", "unicode/utf8.first", "unicode/utf8.acceptRanges", "strconv.ErrSyntax", "strconv.ErrRange", "internal/strconv.uint64pow10", "math/bits.deBruijn32tab", "math/bits.deBruijn64tab", "quartermaster/atom.signs"], loops := true, plainKeys := false, apart := false, laid := [("math/bits.deBruijn32tab", laid_math_bits_deBruijn32tab), ("math/bits.deBruijn64tab", laid_math_bits_deBruijn64tab), ("internal/strconv.uint64pow10", laid_internal_strconv_uint64pow10), ("unicode/utf8.acceptRanges", laid_unicode_utf8_acceptRanges), ("strconv.ErrRange", laid_strconv_ErrRange), ("strconv.ErrSyntax", laid_strconv_ErrSyntax), ("quartermaster/atom.signs", laid_quartermaster_atom_signs), ("unicode/utf8.first", laid_unicode_utf8_first)], narrowed := true }
def OrderMakesUptoSaid : Prop := orderMakesUptoRow.holds Tryz.pinned (OpenSpec.upto orderMakesSpec)

/-- 'quartermasterlaw.OrderNone', WHERE WHAT IT READS IS OF BULK AT MOST 1048576: true; the input reads as it did. -/
def orderNoneUptoRow : OpenClaim := { program := "ytonlloiemgdfkaagreatdoor", sum := "a645c876cd0be49bdb617cee9fb92153ed72d1f5f75c57eb134f3cd697be1c42", func := "quartermaster/quartermasterlaw.OrderNone", spec := "orderNone", inPlace := ["internal/bytealg.IndexByteString", "internal/bytealg.IndexString", "internal/bytealg.CountString"], unfollowed := true, recurses := true, named := ["internal/bytealg.MaxLen", "unicode/utf8.first", "unicode/utf8.acceptRanges", "strconv.ErrSyntax", "strconv.ErrRange", "internal/strconv.uint64pow10", "math/bits.deBruijn32tab", "math/bits.deBruijn64tab", "quartermaster/atom.signs"], loops := true, plainKeys := false, apart := false, laid := [("math/bits.deBruijn32tab", laid_math_bits_deBruijn32tab), ("math/bits.deBruijn64tab", laid_math_bits_deBruijn64tab), ("internal/strconv.uint64pow10", laid_internal_strconv_uint64pow10), ("unicode/utf8.acceptRanges", laid_unicode_utf8_acceptRanges), ("strconv.ErrRange", laid_strconv_ErrRange), ("strconv.ErrSyntax", laid_strconv_ErrSyntax), ("quartermaster/atom.signs", laid_quartermaster_atom_signs), ("unicode/utf8.first", laid_unicode_utf8_first)], narrowed := true }
def OrderNoneUptoSaid : Prop := orderNoneUptoRow.holds Tryz.pinned (OpenSpec.upto orderNoneSpec)

/-- 'quartermasterlaw.OrderLeans', WHERE WHAT IT READS IS OF BULK AT MOST 1048576: true; the input reads as it did. -/
def orderLeansUptoRow : OpenClaim := { program := "ytonlloiemgdfkaagreatdoor", sum := "a645c876cd0be49bdb617cee9fb92153ed72d1f5f75c57eb134f3cd697be1c42", func := "quartermaster/quartermasterlaw.OrderLeans", spec := "orderLeans", inPlace := ["internal/bytealg.IndexByteString", "internal/bytealg.IndexString", "internal/bytealg.CountString"], unfollowed := true, recurses := true, named := ["internal/bytealg.MaxLen", "unicode/utf8.first", "unicode/utf8.acceptRanges", "strconv.ErrSyntax", "strconv.ErrRange", "internal/strconv.uint64pow10", "math/bits.deBruijn32tab", "math/bits.deBruijn64tab", "quartermaster/atom.signs"], loops := true, plainKeys := false, apart := false, laid := [("math/bits.deBruijn32tab", laid_math_bits_deBruijn32tab), ("math/bits.deBruijn64tab", laid_math_bits_deBruijn64tab), ("internal/strconv.uint64pow10", laid_internal_strconv_uint64pow10), ("unicode/utf8.acceptRanges", laid_unicode_utf8_acceptRanges), ("strconv.ErrRange", laid_strconv_ErrRange), ("strconv.ErrSyntax", laid_strconv_ErrSyntax), ("quartermaster/atom.signs", laid_quartermaster_atom_signs), ("unicode/utf8.first", laid_unicode_utf8_first)], narrowed := true }
def OrderLeansUptoSaid : Prop := orderLeansUptoRow.holds Tryz.pinned (OpenSpec.upto orderLeansSpec)

/-- 'quartermasterlaw.OrderFirst', WHERE WHAT IT READS IS OF BULK AT MOST 1048576: true; the input reads as it did. -/
def orderFirstUptoRow : OpenClaim := { program := "ytonlloiemgdfkaagreatdoor", sum := "a645c876cd0be49bdb617cee9fb92153ed72d1f5f75c57eb134f3cd697be1c42", func := "quartermaster/quartermasterlaw.OrderFirst", spec := "orderFirst", inPlace := ["internal/bytealg.IndexByteString", "internal/bytealg.IndexString", "internal/bytealg.CountString"], unfollowed := true, recurses := true, named := ["internal/bytealg.MaxLen", "unicode/utf8.first", "unicode/utf8.acceptRanges", "strconv.ErrSyntax", "strconv.ErrRange", "internal/strconv.uint64pow10", "math/bits.deBruijn32tab", "math/bits.deBruijn64tab", "quartermaster/atom.signs"], loops := true, plainKeys := false, apart := false, laid := [("math/bits.deBruijn32tab", laid_math_bits_deBruijn32tab), ("math/bits.deBruijn64tab", laid_math_bits_deBruijn64tab), ("internal/strconv.uint64pow10", laid_internal_strconv_uint64pow10), ("unicode/utf8.acceptRanges", laid_unicode_utf8_acceptRanges), ("strconv.ErrRange", laid_strconv_ErrRange), ("strconv.ErrSyntax", laid_strconv_ErrSyntax), ("quartermaster/atom.signs", laid_quartermaster_atom_signs), ("unicode/utf8.first", laid_unicode_utf8_first)], narrowed := true }
def OrderFirstUptoSaid : Prop := orderFirstUptoRow.holds Tryz.pinned (OpenSpec.upto orderFirstSpec)

/-- 'quartermasterlaw.ResolveProves', WHERE WHAT IT READS IS OF BULK AT MOST 1048576: true; the input reads as it did. -/
def resolveProvesUptoRow : OpenClaim := { program := "ytonlloiemgdfkaagreatdoor", sum := "a645c876cd0be49bdb617cee9fb92153ed72d1f5f75c57eb134f3cd697be1c42", func := "quartermaster/quartermasterlaw.ResolveProves", spec := "resolveProves", inPlace := ["internal/bytealg.IndexByteString", "internal/bytealg.IndexString", "internal/bytealg.CountString"], unfollowed := true, recurses := true, named := ["internal/bytealg.MaxLen", "unicode/utf8.first", "unicode/utf8.acceptRanges", "strconv.ErrSyntax", "strconv.ErrRange", "internal/strconv.uint64pow10", "math/bits.deBruijn32tab", "math/bits.deBruijn64tab", "quartermaster/atom.signs"], loops := true, plainKeys := false, apart := false, laid := [("math/bits.deBruijn32tab", laid_math_bits_deBruijn32tab), ("math/bits.deBruijn64tab", laid_math_bits_deBruijn64tab), ("internal/strconv.uint64pow10", laid_internal_strconv_uint64pow10), ("unicode/utf8.acceptRanges", laid_unicode_utf8_acceptRanges), ("strconv.ErrRange", laid_strconv_ErrRange), ("strconv.ErrSyntax", laid_strconv_ErrSyntax), ("quartermaster/atom.signs", laid_quartermaster_atom_signs), ("unicode/utf8.first", laid_unicode_utf8_first)], narrowed := true }
def ResolveProvesUptoSaid : Prop := resolveProvesUptoRow.holds Tryz.pinned (OpenSpec.upto resolveProvesSpec)

/-- 'quartermasterlaw.ResolveBest', WHERE WHAT IT READS IS OF BULK AT MOST 1048576: true; the input reads as it did. -/
def resolveBestUptoRow : OpenClaim := { program := "ytonlloiemgdfkaagreatdoor", sum := "a645c876cd0be49bdb617cee9fb92153ed72d1f5f75c57eb134f3cd697be1c42", func := "quartermaster/quartermasterlaw.ResolveBest", spec := "resolveBest", inPlace := ["internal/bytealg.IndexByteString", "internal/bytealg.IndexString", "internal/bytealg.CountString"], unfollowed := true, recurses := true, named := ["internal/bytealg.MaxLen", "unicode/utf8.first", "unicode/utf8.acceptRanges", "strconv.ErrSyntax", "strconv.ErrRange", "internal/strconv.uint64pow10", "math/bits.deBruijn32tab", "math/bits.deBruijn64tab", "quartermaster/atom.signs"], loops := true, plainKeys := false, apart := false, laid := [("math/bits.deBruijn32tab", laid_math_bits_deBruijn32tab), ("math/bits.deBruijn64tab", laid_math_bits_deBruijn64tab), ("internal/strconv.uint64pow10", laid_internal_strconv_uint64pow10), ("unicode/utf8.acceptRanges", laid_unicode_utf8_acceptRanges), ("strconv.ErrRange", laid_strconv_ErrRange), ("strconv.ErrSyntax", laid_strconv_ErrSyntax), ("quartermaster/atom.signs", laid_quartermaster_atom_signs), ("unicode/utf8.first", laid_unicode_utf8_first)], narrowed := true }
def ResolveBestUptoSaid : Prop := resolveBestUptoRow.holds Tryz.pinned (OpenSpec.upto resolveBestSpec)

/-- 'quartermasterlaw.ResolveUnmasks', WHERE WHAT IT READS IS OF BULK AT MOST 1048576: true; the input reads as it did. -/
def resolveUnmasksUptoRow : OpenClaim := { program := "ytonlloiemgdfkaagreatdoor", sum := "a645c876cd0be49bdb617cee9fb92153ed72d1f5f75c57eb134f3cd697be1c42", func := "quartermaster/quartermasterlaw.ResolveUnmasks", spec := "resolveUnmasks", inPlace := ["internal/bytealg.IndexByteString", "internal/bytealg.IndexString", "internal/bytealg.CountString"], unfollowed := true, recurses := true, named := ["internal/bytealg.MaxLen", "unicode/utf8.first", "unicode/utf8.acceptRanges", "strconv.ErrSyntax", "strconv.ErrRange", "internal/strconv.uint64pow10", "math/bits.deBruijn32tab", "math/bits.deBruijn64tab", "quartermaster/atom.signs"], loops := true, plainKeys := false, apart := false, laid := [("math/bits.deBruijn32tab", laid_math_bits_deBruijn32tab), ("math/bits.deBruijn64tab", laid_math_bits_deBruijn64tab), ("internal/strconv.uint64pow10", laid_internal_strconv_uint64pow10), ("unicode/utf8.acceptRanges", laid_unicode_utf8_acceptRanges), ("strconv.ErrRange", laid_strconv_ErrRange), ("strconv.ErrSyntax", laid_strconv_ErrSyntax), ("quartermaster/atom.signs", laid_quartermaster_atom_signs), ("unicode/utf8.first", laid_unicode_utf8_first)], narrowed := true }
def ResolveUnmasksUptoSaid : Prop := resolveUnmasksUptoRow.holds Tryz.pinned (OpenSpec.upto resolveUnmasksSpec)

/-- 'quartermasterlaw.ResolveNothing', WHERE WHAT IT READS IS OF BULK AT MOST 1048576: true; the input reads as it did. -/
def resolveNothingUptoRow : OpenClaim := { program := "ytonlloiemgdfkaagreatdoor", sum := "a645c876cd0be49bdb617cee9fb92153ed72d1f5f75c57eb134f3cd697be1c42", func := "quartermaster/quartermasterlaw.ResolveNothing", spec := "resolveNothing", inPlace := ["internal/bytealg.IndexByteString", "internal/bytealg.IndexString", "internal/bytealg.CountString"], unfollowed := true, recurses := true, named := ["internal/bytealg.MaxLen", "unicode/utf8.first", "unicode/utf8.acceptRanges", "strconv.ErrSyntax", "strconv.ErrRange", "internal/strconv.uint64pow10", "math/bits.deBruijn32tab", "math/bits.deBruijn64tab", "quartermaster/atom.signs"], loops := true, plainKeys := false, apart := false, laid := [("math/bits.deBruijn32tab", laid_math_bits_deBruijn32tab), ("math/bits.deBruijn64tab", laid_math_bits_deBruijn64tab), ("internal/strconv.uint64pow10", laid_internal_strconv_uint64pow10), ("unicode/utf8.acceptRanges", laid_unicode_utf8_acceptRanges), ("strconv.ErrRange", laid_strconv_ErrRange), ("strconv.ErrSyntax", laid_strconv_ErrSyntax), ("quartermaster/atom.signs", laid_quartermaster_atom_signs), ("unicode/utf8.first", laid_unicode_utf8_first)], narrowed := true }
def ResolveNothingUptoSaid : Prop := resolveNothingUptoRow.holds Tryz.pinned (OpenSpec.upto resolveNothingSpec)

/-- 'quartermasterlaw.EncodeMeans', WHERE WHAT IT READS IS OF BULK AT MOST 1048576: true; the input reads as it did. -/
def encodeMeansUptoRow : OpenClaim := { program := "ytonlloiemgdfkaagreatdoor", sum := "a645c876cd0be49bdb617cee9fb92153ed72d1f5f75c57eb134f3cd697be1c42", func := "quartermaster/quartermasterlaw.EncodeMeans", spec := "encodeMeans", inPlace := ["internal/bytealg.IndexByteString", "internal/bytealg.IndexString", "internal/bytealg.CountString"], unfollowed := true, recurses := true, named := ["internal/bytealg.MaxLen", "unicode/utf8.first", "unicode/utf8.acceptRanges", "strconv.ErrSyntax", "strconv.ErrRange", "internal/strconv.uint64pow10", "math/bits.deBruijn32tab", "math/bits.deBruijn64tab", "quartermaster/atom.signs"], loops := true, plainKeys := false, apart := false, laid := [("math/bits.deBruijn32tab", laid_math_bits_deBruijn32tab), ("math/bits.deBruijn64tab", laid_math_bits_deBruijn64tab), ("internal/strconv.uint64pow10", laid_internal_strconv_uint64pow10), ("unicode/utf8.acceptRanges", laid_unicode_utf8_acceptRanges), ("strconv.ErrRange", laid_strconv_ErrRange), ("strconv.ErrSyntax", laid_strconv_ErrSyntax), ("quartermaster/atom.signs", laid_quartermaster_atom_signs), ("unicode/utf8.first", laid_unicode_utf8_first)], narrowed := true }
def EncodeMeansUptoSaid : Prop := encodeMeansUptoRow.holds Tryz.pinned (OpenSpec.upto encodeMeansSpec)

end Rows
end Go.Proofs.YtonlloiemgdfkaaGreatDoor
