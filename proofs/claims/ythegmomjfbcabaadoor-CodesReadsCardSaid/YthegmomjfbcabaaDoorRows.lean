/-
  NARROWER THAN 'FOR EVERY INPUT', by the rows' own cells (each row's printed sentence says how): CodesChecks: laid · CodesAnswers: laid · CodesFits: laid · CodesReads: laid · CodesImplies: laid · CodesCores: laid · CodesChooses: laid · CodesNext: laid · CodesWrites: laid · CodesParses: laid · CodesExact: laid · CodesOne: laid · CodesDecoys: laid · CodesFewest: laid · CodesMirror: laid · CodesLeft: laid.
  DERIVED. THE GIVEN ROWS OF THIS SEAT. 16 by the template 'for every input the law returns true; each argument reads behind the call as it read before'; 0 by the template 'total and deterministic' (their statements: YthegmomjfbcabaaDoorTotals.lean).
  GIVEN WITH THE SEED: the statements are not yours to turn. If you find one false, say at which input.
  Laid BY PROGRAM, IN A SANDBOX (cutbox-rows.mjs): the forced cells as the released guide's own fill.sh prints them over the translation 0b8a5a679c96a239… (all of the seat's roots in one cut). By AI agents, Wed Nov 11 2026. No macro, syntax, notation, axiom, sorry.
-/
import Derived.Test.YthegmomjfbcabaaDoorChecked
import GoSem.PinnedTables
import GoSem.Claim
import GoSem.ClaimJoined
import GoSem.ClaimMapViews
import Derived.JoinedTies
import Derived.KernelRfl
namespace Go.Proofs.YthegmomjfbcabaaDoor
/- THE CELL 'sum', in the pinned program and in every row, IS THE sha256 OF THE DUMP (.gsa) THAT YthegmomjfbcabaaDoorProg.lean LOADS. Nothing in Lean hashes anything: it is a label: what it is worth is what the hold of that sum in a sandbox is worth. -/
noncomputable def Tryd.pinned : Pinned := { name := "ythegmomjfbcabaadoor", sum := "0b8a5a679c96a2398e37329a6da42e6aab5be3d68569fc8675023cb15ff3322a", checked := Tryd.checked }
namespace Rows
def none {H : Type} : Left H := { results := [], args := [] }

/- WHAT THE LISTED PACKAGE-LEVEL VARIABLES READ AS WHEN THE CALL BEGINS. Each datum BY PROGRAM (the guide's laid-datum.mjs) off the statement by which the dump's own 'gosem.cut.vars' lays the variable. In a bare row this is a premise. The card (YthegmomjfbcabaaDoorCards.lean) ties it to the program's text. -/
def laid_padlock_codes_shapes {H : Type} : DataW H := .agg [.agg [.lit (.string [97, 116]), .lit (.string [65, 78]), .lit (.bool false)], .agg [.lit (.string [115, 117, 109]), .lit (.string [65, 66, 78]), .lit (.bool false)], .agg [.lit (.string [108, 101, 115, 115]), .lit (.string [65, 66]), .lit (.bool false)], .agg [.lit (.string [115, 97, 109, 101]), .lit (.string [65, 66]), .lit (.bool false)], .agg [.lit (.string [104, 97, 115]), .lit (.string [78, 77]), .lit (.bool false)], .agg [.lit (.string [114, 105, 103, 104, 116]), .lit (.string [78, 77]), .lit (.bool true)], .agg [.lit (.string [114, 101, 109, 97, 105, 110]), .lit (.string [65, 78, 77]), .lit (.bool false)]]
def laid_math_bits_deBruijn32tab {H : Type} : DataW H := .agg [.lit (.int .u8 0), .lit (.int .u8 1), .lit (.int .u8 28), .lit (.int .u8 2), .lit (.int .u8 29), .lit (.int .u8 14), .lit (.int .u8 24), .lit (.int .u8 3), .lit (.int .u8 30), .lit (.int .u8 22), .lit (.int .u8 20), .lit (.int .u8 15), .lit (.int .u8 25), .lit (.int .u8 17), .lit (.int .u8 4), .lit (.int .u8 8), .lit (.int .u8 31), .lit (.int .u8 27), .lit (.int .u8 13), .lit (.int .u8 23), .lit (.int .u8 21), .lit (.int .u8 19), .lit (.int .u8 16), .lit (.int .u8 7), .lit (.int .u8 26), .lit (.int .u8 12), .lit (.int .u8 18), .lit (.int .u8 6), .lit (.int .u8 11), .lit (.int .u8 5), .lit (.int .u8 10), .lit (.int .u8 9)]
def laid_math_bits_deBruijn64tab {H : Type} : DataW H := .agg [.lit (.int .u8 0), .lit (.int .u8 1), .lit (.int .u8 56), .lit (.int .u8 2), .lit (.int .u8 57), .lit (.int .u8 49), .lit (.int .u8 28), .lit (.int .u8 3), .lit (.int .u8 61), .lit (.int .u8 58), .lit (.int .u8 42), .lit (.int .u8 50), .lit (.int .u8 38), .lit (.int .u8 29), .lit (.int .u8 17), .lit (.int .u8 4), .lit (.int .u8 62), .lit (.int .u8 47), .lit (.int .u8 59), .lit (.int .u8 36), .lit (.int .u8 45), .lit (.int .u8 43), .lit (.int .u8 51), .lit (.int .u8 22), .lit (.int .u8 53), .lit (.int .u8 39), .lit (.int .u8 33), .lit (.int .u8 30), .lit (.int .u8 24), .lit (.int .u8 18), .lit (.int .u8 12), .lit (.int .u8 5), .lit (.int .u8 63), .lit (.int .u8 55), .lit (.int .u8 48), .lit (.int .u8 27), .lit (.int .u8 60), .lit (.int .u8 41), .lit (.int .u8 37), .lit (.int .u8 16), .lit (.int .u8 46), .lit (.int .u8 35), .lit (.int .u8 44), .lit (.int .u8 21), .lit (.int .u8 52), .lit (.int .u8 32), .lit (.int .u8 23), .lit (.int .u8 11), .lit (.int .u8 54), .lit (.int .u8 26), .lit (.int .u8 40), .lit (.int .u8 15), .lit (.int .u8 34), .lit (.int .u8 20), .lit (.int .u8 31), .lit (.int .u8 10), .lit (.int .u8 25), .lit (.int .u8 14), .lit (.int .u8 19), .lit (.int .u8 9), .lit (.int .u8 13), .lit (.int .u8 8), .lit (.int .u8 7), .lit (.int .u8 6)]
def laid_internal_strconv_uint64pow10 {H : Type} : DataW H := .agg [.lit (.int .u64 1), .lit (.int .u64 10), .lit (.int .u64 100), .lit (.int .u64 1000), .lit (.int .u64 10000), .lit (.int .u64 100000), .lit (.int .u64 1000000), .lit (.int .u64 10000000), .lit (.int .u64 100000000), .lit (.int .u64 1000000000), .lit (.int .u64 10000000000), .lit (.int .u64 100000000000), .lit (.int .u64 1000000000000), .lit (.int .u64 10000000000000), .lit (.int .u64 100000000000000), .lit (.int .u64 1000000000000000), .lit (.int .u64 10000000000000000), .lit (.int .u64 100000000000000000), .lit (.int .u64 1000000000000000000), .lit (.int .u64 10000000000000000000)]
def laid_unicode_utf8_acceptRanges {H : Type} : DataW H := .agg [.agg [.lit (.int .u8 128), .lit (.int .u8 191)], .agg [.lit (.int .u8 160), .lit (.int .u8 191)], .agg [.lit (.int .u8 128), .lit (.int .u8 159)], .agg [.lit (.int .u8 144), .lit (.int .u8 191)], .agg [.lit (.int .u8 128), .lit (.int .u8 143)], .agg [.lit (.int .u8 0), .lit (.int .u8 0)], .agg [.lit (.int .u8 0), .lit (.int .u8 0)], .agg [.lit (.int .u8 0), .lit (.int .u8 0)], .agg [.lit (.int .u8 0), .lit (.int .u8 0)], .agg [.lit (.int .u8 0), .lit (.int .u8 0)], .agg [.lit (.int .u8 0), .lit (.int .u8 0)], .agg [.lit (.int .u8 0), .lit (.int .u8 0)], .agg [.lit (.int .u8 0), .lit (.int .u8 0)], .agg [.lit (.int .u8 0), .lit (.int .u8 0)], .agg [.lit (.int .u8 0), .lit (.int .u8 0)], .agg [.lit (.int .u8 0), .lit (.int .u8 0)]]
/-- One of Go's own tables, pinned by name: the form's constant. -/
def laid_unicode_utf8_first : DataW Unit := Go.Pinned.utf8First

/-- 'padlocklaw01.CodesChecks': WHATEVER THE INPUT: true; the input reads as it did. -/
def codesChecksSpec : ChangeSpec := { name := "codesChecks", fn := fun _ => fun
  | [d1, d2, d3] => { results := [.lit (.bool true)], args := [d1, d2, d3] }
  | _ => none }
def codesChecksRow : OpenClaim := { program := "ythegmomjfbcabaadoor", sum := "0b8a5a679c96a2398e37329a6da42e6aab5be3d68569fc8675023cb15ff3322a", func := "padlock/padlocklaw01.CodesChecks", spec := "codesChecks", unfollowed := true, recurses := true, named := ["padlock/codes.shapes"], apart := false, laid := [("padlock/codes.shapes", laid_padlock_codes_shapes)] }
def CodesChecksSaid : Prop := codesChecksRow.holds Tryd.pinned (OpenSpec.ofChange codesChecksSpec)

/-- ITS FALSE NEIGHBOUR: 'it returns false'. Refute it at one input. -/
def codesChecksWrong : ChangeSpec := { name := "codesChecks", fn := fun _ => fun
  | [d1, d2, d3] => { results := [.lit (.bool false)], args := [d1, d2, d3] }
  | _ => none }
def CodesChecksWrongFalsely : Prop := codesChecksRow.holds Tryd.pinned (OpenSpec.ofChange codesChecksWrong)

/-- 'padlocklaw01.CodesAnswers': WHATEVER THE INPUT: true; the input reads as it did. -/
def codesAnswersSpec : ChangeSpec := { name := "codesAnswers", fn := fun _ => fun
  | [d1, d2, d3] => { results := [.lit (.bool true)], args := [d1, d2, d3] }
  | _ => none }
def codesAnswersRow : OpenClaim := { program := "ythegmomjfbcabaadoor", sum := "0b8a5a679c96a2398e37329a6da42e6aab5be3d68569fc8675023cb15ff3322a", func := "padlock/padlocklaw01.CodesAnswers", spec := "codesAnswers", unfollowed := true, recurses := true, named := ["padlock/codes.shapes"], apart := false, laid := [("padlock/codes.shapes", laid_padlock_codes_shapes)] }
def CodesAnswersSaid : Prop := codesAnswersRow.holds Tryd.pinned (OpenSpec.ofChange codesAnswersSpec)

/-- ITS FALSE NEIGHBOUR: 'it returns false'. Refute it at one input. -/
def codesAnswersWrong : ChangeSpec := { name := "codesAnswers", fn := fun _ => fun
  | [d1, d2, d3] => { results := [.lit (.bool false)], args := [d1, d2, d3] }
  | _ => none }
def CodesAnswersWrongFalsely : Prop := codesAnswersRow.holds Tryd.pinned (OpenSpec.ofChange codesAnswersWrong)

/-- 'padlocklaw01.CodesFits': WHATEVER THE INPUT: true; the input reads as it did. -/
def codesFitsSpec : ChangeSpec := { name := "codesFits", fn := fun _ => fun
  | [d1, d2, d3] => { results := [.lit (.bool true)], args := [d1, d2, d3] }
  | _ => none }
def codesFitsRow : OpenClaim := { program := "ythegmomjfbcabaadoor", sum := "0b8a5a679c96a2398e37329a6da42e6aab5be3d68569fc8675023cb15ff3322a", func := "padlock/padlocklaw01.CodesFits", spec := "codesFits", unfollowed := true, recurses := true, named := ["padlock/codes.shapes"], apart := false, laid := [("padlock/codes.shapes", laid_padlock_codes_shapes)] }
def CodesFitsSaid : Prop := codesFitsRow.holds Tryd.pinned (OpenSpec.ofChange codesFitsSpec)

/-- ITS FALSE NEIGHBOUR: 'it returns false'. Refute it at one input. -/
def codesFitsWrong : ChangeSpec := { name := "codesFits", fn := fun _ => fun
  | [d1, d2, d3] => { results := [.lit (.bool false)], args := [d1, d2, d3] }
  | _ => none }
def CodesFitsWrongFalsely : Prop := codesFitsRow.holds Tryd.pinned (OpenSpec.ofChange codesFitsWrong)

/-- 'padlocklaw01.CodesReads': WHATEVER THE INPUT: true; the input reads as it did. -/
def codesReadsSpec : ChangeSpec := { name := "codesReads", fn := fun _ => fun
  | [d1, d2, d3] => { results := [.lit (.bool true)], args := [d1, d2, d3] }
  | _ => none }
def codesReadsRow : OpenClaim := { program := "ythegmomjfbcabaadoor", sum := "0b8a5a679c96a2398e37329a6da42e6aab5be3d68569fc8675023cb15ff3322a", func := "padlock/padlocklaw01.CodesReads", spec := "codesReads", unfollowed := true, recurses := true, named := ["padlock/codes.shapes"], apart := false, laid := [("padlock/codes.shapes", laid_padlock_codes_shapes)] }
def CodesReadsSaid : Prop := codesReadsRow.holds Tryd.pinned (OpenSpec.ofChange codesReadsSpec)

/-- ITS FALSE NEIGHBOUR: 'it returns false'. Refute it at one input. -/
def codesReadsWrong : ChangeSpec := { name := "codesReads", fn := fun _ => fun
  | [d1, d2, d3] => { results := [.lit (.bool false)], args := [d1, d2, d3] }
  | _ => none }
def CodesReadsWrongFalsely : Prop := codesReadsRow.holds Tryd.pinned (OpenSpec.ofChange codesReadsWrong)

/-- 'padlocklaw01.CodesImplies': WHATEVER THE INPUT: true; the input reads as it did. -/
def codesImpliesSpec : ChangeSpec := { name := "codesImplies", fn := fun _ => fun
  | [d1, d2, d3] => { results := [.lit (.bool true)], args := [d1, d2, d3] }
  | _ => none }
def codesImpliesRow : OpenClaim := { program := "ythegmomjfbcabaadoor", sum := "0b8a5a679c96a2398e37329a6da42e6aab5be3d68569fc8675023cb15ff3322a", func := "padlock/padlocklaw01.CodesImplies", spec := "codesImplies", unfollowed := true, recurses := true, named := ["padlock/codes.shapes"], apart := false, laid := [("padlock/codes.shapes", laid_padlock_codes_shapes)] }
def CodesImpliesSaid : Prop := codesImpliesRow.holds Tryd.pinned (OpenSpec.ofChange codesImpliesSpec)

/-- ITS FALSE NEIGHBOUR: 'it returns false'. Refute it at one input. -/
def codesImpliesWrong : ChangeSpec := { name := "codesImplies", fn := fun _ => fun
  | [d1, d2, d3] => { results := [.lit (.bool false)], args := [d1, d2, d3] }
  | _ => none }
def CodesImpliesWrongFalsely : Prop := codesImpliesRow.holds Tryd.pinned (OpenSpec.ofChange codesImpliesWrong)

/-- 'padlocklaw01.CodesCores': WHATEVER THE INPUT: true; the input reads as it did. -/
def codesCoresSpec : ChangeSpec := { name := "codesCores", fn := fun _ => fun
  | [d1, d2] => { results := [.lit (.bool true)], args := [d1, d2] }
  | _ => none }
def codesCoresRow : OpenClaim := { program := "ythegmomjfbcabaadoor", sum := "0b8a5a679c96a2398e37329a6da42e6aab5be3d68569fc8675023cb15ff3322a", func := "padlock/padlocklaw01.CodesCores", spec := "codesCores", unfollowed := true, recurses := true, named := ["padlock/codes.shapes", "math/bits.deBruijn32tab"], apart := false, laid := [("math/bits.deBruijn32tab", laid_math_bits_deBruijn32tab), ("padlock/codes.shapes", laid_padlock_codes_shapes)] }
def CodesCoresSaid : Prop := codesCoresRow.holds Tryd.pinned (OpenSpec.ofChange codesCoresSpec)

/-- ITS FALSE NEIGHBOUR: 'it returns false'. Refute it at one input. -/
def codesCoresWrong : ChangeSpec := { name := "codesCores", fn := fun _ => fun
  | [d1, d2] => { results := [.lit (.bool false)], args := [d1, d2] }
  | _ => none }
def CodesCoresWrongFalsely : Prop := codesCoresRow.holds Tryd.pinned (OpenSpec.ofChange codesCoresWrong)

/-- 'padlocklaw01.CodesChooses': WHATEVER THE INPUT: true; the input reads as it did. -/
def codesChoosesSpec : ChangeSpec := { name := "codesChooses", fn := fun _ => fun
  | [d1, d2, d3] => { results := [.lit (.bool true)], args := [d1, d2, d3] }
  | _ => none }
def codesChoosesRow : OpenClaim := { program := "ythegmomjfbcabaadoor", sum := "0b8a5a679c96a2398e37329a6da42e6aab5be3d68569fc8675023cb15ff3322a", func := "padlock/padlocklaw01.CodesChooses", spec := "codesChooses", unfollowed := true, recurses := true, named := ["padlock/codes.shapes", "math/bits.deBruijn32tab"], apart := false, laid := [("math/bits.deBruijn32tab", laid_math_bits_deBruijn32tab), ("padlock/codes.shapes", laid_padlock_codes_shapes)] }
def CodesChoosesSaid : Prop := codesChoosesRow.holds Tryd.pinned (OpenSpec.ofChange codesChoosesSpec)

/-- ITS FALSE NEIGHBOUR: 'it returns false'. Refute it at one input. -/
def codesChoosesWrong : ChangeSpec := { name := "codesChooses", fn := fun _ => fun
  | [d1, d2, d3] => { results := [.lit (.bool false)], args := [d1, d2, d3] }
  | _ => none }
def CodesChoosesWrongFalsely : Prop := codesChoosesRow.holds Tryd.pinned (OpenSpec.ofChange codesChoosesWrong)

/-- 'padlocklaw01.CodesNext': WHATEVER THE INPUT: true; the input reads as it did. -/
def codesNextSpec : ChangeSpec := { name := "codesNext", fn := fun _ => fun
  | [d1, d2] => { results := [.lit (.bool true)], args := [d1, d2] }
  | _ => none }
def codesNextRow : OpenClaim := { program := "ythegmomjfbcabaadoor", sum := "0b8a5a679c96a2398e37329a6da42e6aab5be3d68569fc8675023cb15ff3322a", func := "padlock/padlocklaw01.CodesNext", spec := "codesNext", unfollowed := true, recurses := true, named := ["padlock/codes.shapes"], apart := false, laid := [("padlock/codes.shapes", laid_padlock_codes_shapes)] }
def CodesNextSaid : Prop := codesNextRow.holds Tryd.pinned (OpenSpec.ofChange codesNextSpec)

/-- ITS FALSE NEIGHBOUR: 'it returns false'. Refute it at one input. -/
def codesNextWrong : ChangeSpec := { name := "codesNext", fn := fun _ => fun
  | [d1, d2] => { results := [.lit (.bool false)], args := [d1, d2] }
  | _ => none }
def CodesNextWrongFalsely : Prop := codesNextRow.holds Tryd.pinned (OpenSpec.ofChange codesNextWrong)

/-- 'padlocklaw01.CodesWrites': WHATEVER THE INPUT: true; the input reads as it did. -/
def codesWritesSpec : ChangeSpec := { name := "codesWrites", fn := fun _ => fun
  | [d1, d2] => { results := [.lit (.bool true)], args := [d1, d2] }
  | _ => none }
def codesWritesRow : OpenClaim := { program := "ythegmomjfbcabaadoor", sum := "0b8a5a679c96a2398e37329a6da42e6aab5be3d68569fc8675023cb15ff3322a", func := "padlock/padlocklaw01.CodesWrites", spec := "codesWrites", inPlace := ["internal/bytealg.CountString", "internal/bytealg.IndexByteString", "internal/bytealg.IndexString"], unfollowed := true, recurses := true, named := ["padlock/codes.shapes", "internal/strconv.uint64pow10", "math/bits.deBruijn32tab", "math/bits.deBruijn64tab", "unicode/utf8.first", "unicode/utf8.acceptRanges", "internal/bytealg.MaxLen"], apart := false, laid := [("math/bits.deBruijn32tab", laid_math_bits_deBruijn32tab), ("math/bits.deBruijn64tab", laid_math_bits_deBruijn64tab), ("internal/strconv.uint64pow10", laid_internal_strconv_uint64pow10), ("unicode/utf8.acceptRanges", laid_unicode_utf8_acceptRanges), ("padlock/codes.shapes", laid_padlock_codes_shapes), ("unicode/utf8.first", laid_unicode_utf8_first)] }
def CodesWritesSaid : Prop := codesWritesRow.holds Tryd.pinned (OpenSpec.ofChange codesWritesSpec)

/-- ITS FALSE NEIGHBOUR: 'it returns false'. Refute it at one input. -/
def codesWritesWrong : ChangeSpec := { name := "codesWrites", fn := fun _ => fun
  | [d1, d2] => { results := [.lit (.bool false)], args := [d1, d2] }
  | _ => none }
def CodesWritesWrongFalsely : Prop := codesWritesRow.holds Tryd.pinned (OpenSpec.ofChange codesWritesWrong)

/-- 'padlocklaw01.CodesParses': WHATEVER THE INPUT: true; the input reads as it did. -/
def codesParsesSpec : ChangeSpec := { name := "codesParses", fn := fun _ => fun
  | [d1, d2] => { results := [.lit (.bool true)], args := [d1, d2] }
  | _ => none }
def codesParsesRow : OpenClaim := { program := "ythegmomjfbcabaadoor", sum := "0b8a5a679c96a2398e37329a6da42e6aab5be3d68569fc8675023cb15ff3322a", func := "padlock/padlocklaw01.CodesParses", spec := "codesParses", inPlace := ["internal/bytealg.CountString", "internal/bytealg.IndexByteString", "internal/bytealg.IndexString"], unfollowed := true, recurses := true, named := ["padlock/codes.shapes", "unicode/utf8.first", "unicode/utf8.acceptRanges", "internal/bytealg.MaxLen"], apart := false, laid := [("unicode/utf8.acceptRanges", laid_unicode_utf8_acceptRanges), ("padlock/codes.shapes", laid_padlock_codes_shapes), ("unicode/utf8.first", laid_unicode_utf8_first)] }
def CodesParsesSaid : Prop := codesParsesRow.holds Tryd.pinned (OpenSpec.ofChange codesParsesSpec)

/-- ITS FALSE NEIGHBOUR: 'it returns false'. Refute it at one input. -/
def codesParsesWrong : ChangeSpec := { name := "codesParses", fn := fun _ => fun
  | [d1, d2] => { results := [.lit (.bool false)], args := [d1, d2] }
  | _ => none }
def CodesParsesWrongFalsely : Prop := codesParsesRow.holds Tryd.pinned (OpenSpec.ofChange codesParsesWrong)

/-- 'padlocklaw01.CodesExact': WHATEVER THE INPUT: true; the input reads as it did. -/
def codesExactSpec : ChangeSpec := { name := "codesExact", fn := fun _ => fun
  | [d1, d2, d3] => { results := [.lit (.bool true)], args := [d1, d2, d3] }
  | _ => none }
def codesExactRow : OpenClaim := { program := "ythegmomjfbcabaadoor", sum := "0b8a5a679c96a2398e37329a6da42e6aab5be3d68569fc8675023cb15ff3322a", func := "padlock/padlocklaw01.CodesExact", spec := "codesExact", unfollowed := true, recurses := true, named := ["padlock/codes.shapes"], apart := false, laid := [("padlock/codes.shapes", laid_padlock_codes_shapes)] }
def CodesExactSaid : Prop := codesExactRow.holds Tryd.pinned (OpenSpec.ofChange codesExactSpec)

/-- ITS FALSE NEIGHBOUR: 'it returns false'. Refute it at one input. -/
def codesExactWrong : ChangeSpec := { name := "codesExact", fn := fun _ => fun
  | [d1, d2, d3] => { results := [.lit (.bool false)], args := [d1, d2, d3] }
  | _ => none }
def CodesExactWrongFalsely : Prop := codesExactRow.holds Tryd.pinned (OpenSpec.ofChange codesExactWrong)

/-- 'padlocklaw01.CodesOne': WHATEVER THE INPUT: true; the input reads as it did. -/
def codesOneSpec : ChangeSpec := { name := "codesOne", fn := fun _ => fun
  | [d1, d2, d3] => { results := [.lit (.bool true)], args := [d1, d2, d3] }
  | _ => none }
def codesOneRow : OpenClaim := { program := "ythegmomjfbcabaadoor", sum := "0b8a5a679c96a2398e37329a6da42e6aab5be3d68569fc8675023cb15ff3322a", func := "padlock/padlocklaw01.CodesOne", spec := "codesOne", unfollowed := true, recurses := true, named := ["padlock/codes.shapes"], apart := false, laid := [("padlock/codes.shapes", laid_padlock_codes_shapes)] }
def CodesOneSaid : Prop := codesOneRow.holds Tryd.pinned (OpenSpec.ofChange codesOneSpec)

/-- ITS FALSE NEIGHBOUR: 'it returns false'. Refute it at one input. -/
def codesOneWrong : ChangeSpec := { name := "codesOne", fn := fun _ => fun
  | [d1, d2, d3] => { results := [.lit (.bool false)], args := [d1, d2, d3] }
  | _ => none }
def CodesOneWrongFalsely : Prop := codesOneRow.holds Tryd.pinned (OpenSpec.ofChange codesOneWrong)

/-- 'padlocklaw01.CodesDecoys': WHATEVER THE INPUT: true; the input reads as it did. -/
def codesDecoysSpec : ChangeSpec := { name := "codesDecoys", fn := fun _ => fun
  | [d1, d2] => { results := [.lit (.bool true)], args := [d1, d2] }
  | _ => none }
def codesDecoysRow : OpenClaim := { program := "ythegmomjfbcabaadoor", sum := "0b8a5a679c96a2398e37329a6da42e6aab5be3d68569fc8675023cb15ff3322a", func := "padlock/padlocklaw01.CodesDecoys", spec := "codesDecoys", unfollowed := true, recurses := true, named := ["padlock/codes.shapes", "math/bits.deBruijn32tab"], apart := false, laid := [("math/bits.deBruijn32tab", laid_math_bits_deBruijn32tab), ("padlock/codes.shapes", laid_padlock_codes_shapes)] }
def CodesDecoysSaid : Prop := codesDecoysRow.holds Tryd.pinned (OpenSpec.ofChange codesDecoysSpec)

/-- ITS FALSE NEIGHBOUR: 'it returns false'. Refute it at one input. -/
def codesDecoysWrong : ChangeSpec := { name := "codesDecoys", fn := fun _ => fun
  | [d1, d2] => { results := [.lit (.bool false)], args := [d1, d2] }
  | _ => none }
def CodesDecoysWrongFalsely : Prop := codesDecoysRow.holds Tryd.pinned (OpenSpec.ofChange codesDecoysWrong)

/-- 'padlocklaw01.CodesFewest': WHATEVER THE INPUT: true; the input reads as it did. -/
def codesFewestSpec : ChangeSpec := { name := "codesFewest", fn := fun _ => fun
  | [d1, d2, d3] => { results := [.lit (.bool true)], args := [d1, d2, d3] }
  | _ => none }
def codesFewestRow : OpenClaim := { program := "ythegmomjfbcabaadoor", sum := "0b8a5a679c96a2398e37329a6da42e6aab5be3d68569fc8675023cb15ff3322a", func := "padlock/padlocklaw01.CodesFewest", spec := "codesFewest", unfollowed := true, recurses := true, named := ["padlock/codes.shapes", "math/bits.deBruijn32tab"], apart := false, laid := [("math/bits.deBruijn32tab", laid_math_bits_deBruijn32tab), ("padlock/codes.shapes", laid_padlock_codes_shapes)] }
def CodesFewestSaid : Prop := codesFewestRow.holds Tryd.pinned (OpenSpec.ofChange codesFewestSpec)

/-- ITS FALSE NEIGHBOUR: 'it returns false'. Refute it at one input. -/
def codesFewestWrong : ChangeSpec := { name := "codesFewest", fn := fun _ => fun
  | [d1, d2, d3] => { results := [.lit (.bool false)], args := [d1, d2, d3] }
  | _ => none }
def CodesFewestWrongFalsely : Prop := codesFewestRow.holds Tryd.pinned (OpenSpec.ofChange codesFewestWrong)

/-- 'padlocklaw01.CodesMirror': WHATEVER THE INPUT: true; the input reads as it did. -/
def codesMirrorSpec : ChangeSpec := { name := "codesMirror", fn := fun _ => fun
  | [d1, d2, d3] => { results := [.lit (.bool true)], args := [d1, d2, d3] }
  | _ => none }
def codesMirrorRow : OpenClaim := { program := "ythegmomjfbcabaadoor", sum := "0b8a5a679c96a2398e37329a6da42e6aab5be3d68569fc8675023cb15ff3322a", func := "padlock/padlocklaw01.CodesMirror", spec := "codesMirror", unfollowed := true, recurses := true, named := ["padlock/codes.shapes"], apart := false, laid := [("padlock/codes.shapes", laid_padlock_codes_shapes)] }
def CodesMirrorSaid : Prop := codesMirrorRow.holds Tryd.pinned (OpenSpec.ofChange codesMirrorSpec)

/-- ITS FALSE NEIGHBOUR: 'it returns false'. Refute it at one input. -/
def codesMirrorWrong : ChangeSpec := { name := "codesMirror", fn := fun _ => fun
  | [d1, d2, d3] => { results := [.lit (.bool false)], args := [d1, d2, d3] }
  | _ => none }
def CodesMirrorWrongFalsely : Prop := codesMirrorRow.holds Tryd.pinned (OpenSpec.ofChange codesMirrorWrong)

/-- 'padlocklaw01.CodesLeft': WHATEVER THE INPUT: true; the input reads as it did. -/
def codesLeftSpec : ChangeSpec := { name := "codesLeft", fn := fun _ => fun
  | [d1, d2, d3] => { results := [.lit (.bool true)], args := [d1, d2, d3] }
  | _ => none }
def codesLeftRow : OpenClaim := { program := "ythegmomjfbcabaadoor", sum := "0b8a5a679c96a2398e37329a6da42e6aab5be3d68569fc8675023cb15ff3322a", func := "padlock/padlocklaw01.CodesLeft", spec := "codesLeft", unfollowed := true, recurses := true, named := ["padlock/codes.shapes"], apart := false, laid := [("padlock/codes.shapes", laid_padlock_codes_shapes)] }
def CodesLeftSaid : Prop := codesLeftRow.holds Tryd.pinned (OpenSpec.ofChange codesLeftSpec)

/-- ITS FALSE NEIGHBOUR: 'it returns false'. Refute it at one input. -/
def codesLeftWrong : ChangeSpec := { name := "codesLeft", fn := fun _ => fun
  | [d1, d2, d3] => { results := [.lit (.bool false)], args := [d1, d2, d3] }
  | _ => none }
def CodesLeftWrongFalsely : Prop := codesLeftRow.holds Tryd.pinned (OpenSpec.ofChange codesLeftWrong)

/- THE SECOND FORM. 'bulk': how many values and letters a reading holds, each counted each time it is reached (what is shared counts as often as it is met; a slice's spare places count too). A statement '..UptoSaid' is the law's where the arguments, and the package variables that the reading takes, are together of bulk at most 1048576: NARROWER than '..Said'. Prove '..Said' where nothing that the law and all that it calls make is longer than what came in: it says more and counts as full. Else prove '..UptoSaid'. A law counts once. -/
mutual
def uptoBulk {H : Type} : DataW H → Nat
  | .lit (.string bytes) => bytes.length + 1
  | .lit _ => 1
  | .nil => 1
  | .ptr d => uptoBulk d + 1
  | .slice elems spare => uptoBulkAll elems + uptoBulkAll spare + 1
  | .agg parts => uptoBulkAll parts + 1
  | .iface _ d => uptoBulk d + 1
  | .map entries => uptoBulkEntries entries + 1
  | .held _ => 1
def uptoBulkAll {H : Type} : List (DataW H) → Nat
  | [] => 0
  | d :: r => uptoBulk d + uptoBulkAll r
def uptoBulkEntries {H : Type} : List (Lit × DataW H) → Nat
  | [] => 0
  | x :: r => uptoBulkEntry x + uptoBulkEntries r
def uptoBulkEntry {H : Type} : Lit × DataW H → Nat
  | (.string bytes, d) => bytes.length + uptoBulk d + 1
  | (_, d) => uptoBulk d + 1
 end
def uptoSmall : (H : Type) → List (DataW H) → Bool := fun _ ds => decide (uptoBulkAll ds ≤ 1048576)
def OpenSpec.upto (s : _root_.Go.ChangeSpec) : _root_.Go.OpenSpec := { _root_.Go.OpenSpec.ofChange s with cond := some uptoSmall }

/-- 'padlocklaw01.CodesChecks', WHERE WHAT IT READS IS OF BULK AT MOST 1048576: true; the input reads as it did. -/
def codesChecksUptoRow : OpenClaim := { program := "ythegmomjfbcabaadoor", sum := "0b8a5a679c96a2398e37329a6da42e6aab5be3d68569fc8675023cb15ff3322a", func := "padlock/padlocklaw01.CodesChecks", spec := "codesChecks", unfollowed := true, recurses := true, named := ["padlock/codes.shapes"], apart := false, laid := [("padlock/codes.shapes", laid_padlock_codes_shapes)], narrowed := true }
def CodesChecksUptoSaid : Prop := codesChecksUptoRow.holds Tryd.pinned (OpenSpec.upto codesChecksSpec)

/-- 'padlocklaw01.CodesAnswers', WHERE WHAT IT READS IS OF BULK AT MOST 1048576: true; the input reads as it did. -/
def codesAnswersUptoRow : OpenClaim := { program := "ythegmomjfbcabaadoor", sum := "0b8a5a679c96a2398e37329a6da42e6aab5be3d68569fc8675023cb15ff3322a", func := "padlock/padlocklaw01.CodesAnswers", spec := "codesAnswers", unfollowed := true, recurses := true, named := ["padlock/codes.shapes"], apart := false, laid := [("padlock/codes.shapes", laid_padlock_codes_shapes)], narrowed := true }
def CodesAnswersUptoSaid : Prop := codesAnswersUptoRow.holds Tryd.pinned (OpenSpec.upto codesAnswersSpec)

/-- 'padlocklaw01.CodesFits', WHERE WHAT IT READS IS OF BULK AT MOST 1048576: true; the input reads as it did. -/
def codesFitsUptoRow : OpenClaim := { program := "ythegmomjfbcabaadoor", sum := "0b8a5a679c96a2398e37329a6da42e6aab5be3d68569fc8675023cb15ff3322a", func := "padlock/padlocklaw01.CodesFits", spec := "codesFits", unfollowed := true, recurses := true, named := ["padlock/codes.shapes"], apart := false, laid := [("padlock/codes.shapes", laid_padlock_codes_shapes)], narrowed := true }
def CodesFitsUptoSaid : Prop := codesFitsUptoRow.holds Tryd.pinned (OpenSpec.upto codesFitsSpec)

/-- 'padlocklaw01.CodesReads', WHERE WHAT IT READS IS OF BULK AT MOST 1048576: true; the input reads as it did. -/
def codesReadsUptoRow : OpenClaim := { program := "ythegmomjfbcabaadoor", sum := "0b8a5a679c96a2398e37329a6da42e6aab5be3d68569fc8675023cb15ff3322a", func := "padlock/padlocklaw01.CodesReads", spec := "codesReads", unfollowed := true, recurses := true, named := ["padlock/codes.shapes"], apart := false, laid := [("padlock/codes.shapes", laid_padlock_codes_shapes)], narrowed := true }
def CodesReadsUptoSaid : Prop := codesReadsUptoRow.holds Tryd.pinned (OpenSpec.upto codesReadsSpec)

/-- 'padlocklaw01.CodesImplies', WHERE WHAT IT READS IS OF BULK AT MOST 1048576: true; the input reads as it did. -/
def codesImpliesUptoRow : OpenClaim := { program := "ythegmomjfbcabaadoor", sum := "0b8a5a679c96a2398e37329a6da42e6aab5be3d68569fc8675023cb15ff3322a", func := "padlock/padlocklaw01.CodesImplies", spec := "codesImplies", unfollowed := true, recurses := true, named := ["padlock/codes.shapes"], apart := false, laid := [("padlock/codes.shapes", laid_padlock_codes_shapes)], narrowed := true }
def CodesImpliesUptoSaid : Prop := codesImpliesUptoRow.holds Tryd.pinned (OpenSpec.upto codesImpliesSpec)

/-- 'padlocklaw01.CodesCores', WHERE WHAT IT READS IS OF BULK AT MOST 1048576: true; the input reads as it did. -/
def codesCoresUptoRow : OpenClaim := { program := "ythegmomjfbcabaadoor", sum := "0b8a5a679c96a2398e37329a6da42e6aab5be3d68569fc8675023cb15ff3322a", func := "padlock/padlocklaw01.CodesCores", spec := "codesCores", unfollowed := true, recurses := true, named := ["padlock/codes.shapes", "math/bits.deBruijn32tab"], apart := false, laid := [("math/bits.deBruijn32tab", laid_math_bits_deBruijn32tab), ("padlock/codes.shapes", laid_padlock_codes_shapes)], narrowed := true }
def CodesCoresUptoSaid : Prop := codesCoresUptoRow.holds Tryd.pinned (OpenSpec.upto codesCoresSpec)

/-- 'padlocklaw01.CodesChooses', WHERE WHAT IT READS IS OF BULK AT MOST 1048576: true; the input reads as it did. -/
def codesChoosesUptoRow : OpenClaim := { program := "ythegmomjfbcabaadoor", sum := "0b8a5a679c96a2398e37329a6da42e6aab5be3d68569fc8675023cb15ff3322a", func := "padlock/padlocklaw01.CodesChooses", spec := "codesChooses", unfollowed := true, recurses := true, named := ["padlock/codes.shapes", "math/bits.deBruijn32tab"], apart := false, laid := [("math/bits.deBruijn32tab", laid_math_bits_deBruijn32tab), ("padlock/codes.shapes", laid_padlock_codes_shapes)], narrowed := true }
def CodesChoosesUptoSaid : Prop := codesChoosesUptoRow.holds Tryd.pinned (OpenSpec.upto codesChoosesSpec)

/-- 'padlocklaw01.CodesNext', WHERE WHAT IT READS IS OF BULK AT MOST 1048576: true; the input reads as it did. -/
def codesNextUptoRow : OpenClaim := { program := "ythegmomjfbcabaadoor", sum := "0b8a5a679c96a2398e37329a6da42e6aab5be3d68569fc8675023cb15ff3322a", func := "padlock/padlocklaw01.CodesNext", spec := "codesNext", unfollowed := true, recurses := true, named := ["padlock/codes.shapes"], apart := false, laid := [("padlock/codes.shapes", laid_padlock_codes_shapes)], narrowed := true }
def CodesNextUptoSaid : Prop := codesNextUptoRow.holds Tryd.pinned (OpenSpec.upto codesNextSpec)

/-- 'padlocklaw01.CodesWrites', WHERE WHAT IT READS IS OF BULK AT MOST 1048576: true; the input reads as it did. -/
def codesWritesUptoRow : OpenClaim := { program := "ythegmomjfbcabaadoor", sum := "0b8a5a679c96a2398e37329a6da42e6aab5be3d68569fc8675023cb15ff3322a", func := "padlock/padlocklaw01.CodesWrites", spec := "codesWrites", inPlace := ["internal/bytealg.CountString", "internal/bytealg.IndexByteString", "internal/bytealg.IndexString"], unfollowed := true, recurses := true, named := ["padlock/codes.shapes", "internal/strconv.uint64pow10", "math/bits.deBruijn32tab", "math/bits.deBruijn64tab", "unicode/utf8.first", "unicode/utf8.acceptRanges", "internal/bytealg.MaxLen"], apart := false, laid := [("math/bits.deBruijn32tab", laid_math_bits_deBruijn32tab), ("math/bits.deBruijn64tab", laid_math_bits_deBruijn64tab), ("internal/strconv.uint64pow10", laid_internal_strconv_uint64pow10), ("unicode/utf8.acceptRanges", laid_unicode_utf8_acceptRanges), ("padlock/codes.shapes", laid_padlock_codes_shapes), ("unicode/utf8.first", laid_unicode_utf8_first)], narrowed := true }
def CodesWritesUptoSaid : Prop := codesWritesUptoRow.holds Tryd.pinned (OpenSpec.upto codesWritesSpec)

/-- 'padlocklaw01.CodesParses', WHERE WHAT IT READS IS OF BULK AT MOST 1048576: true; the input reads as it did. -/
def codesParsesUptoRow : OpenClaim := { program := "ythegmomjfbcabaadoor", sum := "0b8a5a679c96a2398e37329a6da42e6aab5be3d68569fc8675023cb15ff3322a", func := "padlock/padlocklaw01.CodesParses", spec := "codesParses", inPlace := ["internal/bytealg.CountString", "internal/bytealg.IndexByteString", "internal/bytealg.IndexString"], unfollowed := true, recurses := true, named := ["padlock/codes.shapes", "unicode/utf8.first", "unicode/utf8.acceptRanges", "internal/bytealg.MaxLen"], apart := false, laid := [("unicode/utf8.acceptRanges", laid_unicode_utf8_acceptRanges), ("padlock/codes.shapes", laid_padlock_codes_shapes), ("unicode/utf8.first", laid_unicode_utf8_first)], narrowed := true }
def CodesParsesUptoSaid : Prop := codesParsesUptoRow.holds Tryd.pinned (OpenSpec.upto codesParsesSpec)

/-- 'padlocklaw01.CodesExact', WHERE WHAT IT READS IS OF BULK AT MOST 1048576: true; the input reads as it did. -/
def codesExactUptoRow : OpenClaim := { program := "ythegmomjfbcabaadoor", sum := "0b8a5a679c96a2398e37329a6da42e6aab5be3d68569fc8675023cb15ff3322a", func := "padlock/padlocklaw01.CodesExact", spec := "codesExact", unfollowed := true, recurses := true, named := ["padlock/codes.shapes"], apart := false, laid := [("padlock/codes.shapes", laid_padlock_codes_shapes)], narrowed := true }
def CodesExactUptoSaid : Prop := codesExactUptoRow.holds Tryd.pinned (OpenSpec.upto codesExactSpec)

/-- 'padlocklaw01.CodesOne', WHERE WHAT IT READS IS OF BULK AT MOST 1048576: true; the input reads as it did. -/
def codesOneUptoRow : OpenClaim := { program := "ythegmomjfbcabaadoor", sum := "0b8a5a679c96a2398e37329a6da42e6aab5be3d68569fc8675023cb15ff3322a", func := "padlock/padlocklaw01.CodesOne", spec := "codesOne", unfollowed := true, recurses := true, named := ["padlock/codes.shapes"], apart := false, laid := [("padlock/codes.shapes", laid_padlock_codes_shapes)], narrowed := true }
def CodesOneUptoSaid : Prop := codesOneUptoRow.holds Tryd.pinned (OpenSpec.upto codesOneSpec)

/-- 'padlocklaw01.CodesDecoys', WHERE WHAT IT READS IS OF BULK AT MOST 1048576: true; the input reads as it did. -/
def codesDecoysUptoRow : OpenClaim := { program := "ythegmomjfbcabaadoor", sum := "0b8a5a679c96a2398e37329a6da42e6aab5be3d68569fc8675023cb15ff3322a", func := "padlock/padlocklaw01.CodesDecoys", spec := "codesDecoys", unfollowed := true, recurses := true, named := ["padlock/codes.shapes", "math/bits.deBruijn32tab"], apart := false, laid := [("math/bits.deBruijn32tab", laid_math_bits_deBruijn32tab), ("padlock/codes.shapes", laid_padlock_codes_shapes)], narrowed := true }
def CodesDecoysUptoSaid : Prop := codesDecoysUptoRow.holds Tryd.pinned (OpenSpec.upto codesDecoysSpec)

/-- 'padlocklaw01.CodesFewest', WHERE WHAT IT READS IS OF BULK AT MOST 1048576: true; the input reads as it did. -/
def codesFewestUptoRow : OpenClaim := { program := "ythegmomjfbcabaadoor", sum := "0b8a5a679c96a2398e37329a6da42e6aab5be3d68569fc8675023cb15ff3322a", func := "padlock/padlocklaw01.CodesFewest", spec := "codesFewest", unfollowed := true, recurses := true, named := ["padlock/codes.shapes", "math/bits.deBruijn32tab"], apart := false, laid := [("math/bits.deBruijn32tab", laid_math_bits_deBruijn32tab), ("padlock/codes.shapes", laid_padlock_codes_shapes)], narrowed := true }
def CodesFewestUptoSaid : Prop := codesFewestUptoRow.holds Tryd.pinned (OpenSpec.upto codesFewestSpec)

/-- 'padlocklaw01.CodesMirror', WHERE WHAT IT READS IS OF BULK AT MOST 1048576: true; the input reads as it did. -/
def codesMirrorUptoRow : OpenClaim := { program := "ythegmomjfbcabaadoor", sum := "0b8a5a679c96a2398e37329a6da42e6aab5be3d68569fc8675023cb15ff3322a", func := "padlock/padlocklaw01.CodesMirror", spec := "codesMirror", unfollowed := true, recurses := true, named := ["padlock/codes.shapes"], apart := false, laid := [("padlock/codes.shapes", laid_padlock_codes_shapes)], narrowed := true }
def CodesMirrorUptoSaid : Prop := codesMirrorUptoRow.holds Tryd.pinned (OpenSpec.upto codesMirrorSpec)

/-- 'padlocklaw01.CodesLeft', WHERE WHAT IT READS IS OF BULK AT MOST 1048576: true; the input reads as it did. -/
def codesLeftUptoRow : OpenClaim := { program := "ythegmomjfbcabaadoor", sum := "0b8a5a679c96a2398e37329a6da42e6aab5be3d68569fc8675023cb15ff3322a", func := "padlock/padlocklaw01.CodesLeft", spec := "codesLeft", unfollowed := true, recurses := true, named := ["padlock/codes.shapes"], apart := false, laid := [("padlock/codes.shapes", laid_padlock_codes_shapes)], narrowed := true }
def CodesLeftUptoSaid : Prop := codesLeftUptoRow.holds Tryd.pinned (OpenSpec.upto codesLeftSpec)

end Rows
end Go.Proofs.YthegmomjfbcabaaDoor
