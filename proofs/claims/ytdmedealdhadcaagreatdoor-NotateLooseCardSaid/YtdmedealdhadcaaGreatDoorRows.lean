/-
  NARROWER THAN 'FOR EVERY INPUT', by the rows' own cells (each row's printed sentence says how): NotateWords: laid · NotateTexts: laid · NotateParses: laid · NotateLetters: laid · NotateKnown: laid · NotateBack: laid · NotateLoose: laid.
  DERIVED. THE GIVEN ROWS OF THIS SEAT. 7 by the template 'for every input the law returns true; each argument reads behind the call as it read before'; 0 by the template 'total and deterministic' (their statements: YtdmedealdhadcaaGreatDoorTotals.lean).
  GIVEN WITH THE SEED: the statements are not yours to turn. If you find one false, say at which input.
  Laid BY PROGRAM, IN A SANDBOX (cutbox-rows.mjs): the forced cells as the released guide's own fill.sh prints them over the translation a3b5eb64ecac000a… (all of the seat's roots in one cut). By AI agents, Wed Nov 11 2026. No macro, syntax, notation, axiom, sorry.
-/
import Derived.Test.YtdmedealdhadcaaGreatDoorChecked
import GoSem.PinnedTables
import GoSem.Claim
import GoSem.ClaimJoined
import GoSem.ClaimMapViews
import Derived.JoinedTies
import Derived.KernelRfl
namespace Go.Proofs.YtdmedealdhadcaaGreatDoor
/- THE CELL 'sum', in the pinned program and in every row, IS THE sha256 OF THE DUMP (.gsa) THAT YtdmedealdhadcaaGreatDoorProg.lean LOADS. Nothing in Lean hashes anything: it is a label: what it is worth is what the hold of that sum in a sandbox is worth. -/
noncomputable def Tryz.pinned : Pinned := { name := "ytdmedealdhadcaagreatdoor", sum := "a3b5eb64ecac000a985eed94d19897f98d0eae77964ad2721ddd8b1f34f2e892", checked := Tryz.checked }
namespace Rows
def none {H : Type} : Left H := { results := [], args := [] }

/- WHAT THE LISTED PACKAGE-LEVEL VARIABLES READ AS WHEN THE CALL BEGINS. Each datum BY PROGRAM (the guide's laid-datum.mjs) off the statement by which the dump's own 'gosem.cut.vars' lays the variable. In a bare row this is a premise. The card (YtdmedealdhadcaaGreatDoorCards.lean) ties it to the program's text. -/
def laid_math_bits_deBruijn32tab {H : Type} : DataW H := .agg [.lit (.int .u8 0), .lit (.int .u8 1), .lit (.int .u8 28), .lit (.int .u8 2), .lit (.int .u8 29), .lit (.int .u8 14), .lit (.int .u8 24), .lit (.int .u8 3), .lit (.int .u8 30), .lit (.int .u8 22), .lit (.int .u8 20), .lit (.int .u8 15), .lit (.int .u8 25), .lit (.int .u8 17), .lit (.int .u8 4), .lit (.int .u8 8), .lit (.int .u8 31), .lit (.int .u8 27), .lit (.int .u8 13), .lit (.int .u8 23), .lit (.int .u8 21), .lit (.int .u8 19), .lit (.int .u8 16), .lit (.int .u8 7), .lit (.int .u8 26), .lit (.int .u8 12), .lit (.int .u8 18), .lit (.int .u8 6), .lit (.int .u8 11), .lit (.int .u8 5), .lit (.int .u8 10), .lit (.int .u8 9)]
def laid_math_bits_deBruijn64tab {H : Type} : DataW H := .agg [.lit (.int .u8 0), .lit (.int .u8 1), .lit (.int .u8 56), .lit (.int .u8 2), .lit (.int .u8 57), .lit (.int .u8 49), .lit (.int .u8 28), .lit (.int .u8 3), .lit (.int .u8 61), .lit (.int .u8 58), .lit (.int .u8 42), .lit (.int .u8 50), .lit (.int .u8 38), .lit (.int .u8 29), .lit (.int .u8 17), .lit (.int .u8 4), .lit (.int .u8 62), .lit (.int .u8 47), .lit (.int .u8 59), .lit (.int .u8 36), .lit (.int .u8 45), .lit (.int .u8 43), .lit (.int .u8 51), .lit (.int .u8 22), .lit (.int .u8 53), .lit (.int .u8 39), .lit (.int .u8 33), .lit (.int .u8 30), .lit (.int .u8 24), .lit (.int .u8 18), .lit (.int .u8 12), .lit (.int .u8 5), .lit (.int .u8 63), .lit (.int .u8 55), .lit (.int .u8 48), .lit (.int .u8 27), .lit (.int .u8 60), .lit (.int .u8 41), .lit (.int .u8 37), .lit (.int .u8 16), .lit (.int .u8 46), .lit (.int .u8 35), .lit (.int .u8 44), .lit (.int .u8 21), .lit (.int .u8 52), .lit (.int .u8 32), .lit (.int .u8 23), .lit (.int .u8 11), .lit (.int .u8 54), .lit (.int .u8 26), .lit (.int .u8 40), .lit (.int .u8 15), .lit (.int .u8 34), .lit (.int .u8 20), .lit (.int .u8 31), .lit (.int .u8 10), .lit (.int .u8 25), .lit (.int .u8 14), .lit (.int .u8 19), .lit (.int .u8 9), .lit (.int .u8 13), .lit (.int .u8 8), .lit (.int .u8 7), .lit (.int .u8 6)]
def laid_internal_strconv_uint64pow10 {H : Type} : DataW H := .agg [.lit (.int .u64 1), .lit (.int .u64 10), .lit (.int .u64 100), .lit (.int .u64 1000), .lit (.int .u64 10000), .lit (.int .u64 100000), .lit (.int .u64 1000000), .lit (.int .u64 10000000), .lit (.int .u64 100000000), .lit (.int .u64 1000000000), .lit (.int .u64 10000000000), .lit (.int .u64 100000000000), .lit (.int .u64 1000000000000), .lit (.int .u64 10000000000000), .lit (.int .u64 100000000000000), .lit (.int .u64 1000000000000000), .lit (.int .u64 10000000000000000), .lit (.int .u64 100000000000000000), .lit (.int .u64 1000000000000000000), .lit (.int .u64 10000000000000000000)]
def laid_unicode_utf8_acceptRanges {H : Type} : DataW H := .agg [.agg [.lit (.int .u8 128), .lit (.int .u8 191)], .agg [.lit (.int .u8 160), .lit (.int .u8 191)], .agg [.lit (.int .u8 128), .lit (.int .u8 159)], .agg [.lit (.int .u8 144), .lit (.int .u8 191)], .agg [.lit (.int .u8 128), .lit (.int .u8 143)], .agg [.lit (.int .u8 0), .lit (.int .u8 0)], .agg [.lit (.int .u8 0), .lit (.int .u8 0)], .agg [.lit (.int .u8 0), .lit (.int .u8 0)], .agg [.lit (.int .u8 0), .lit (.int .u8 0)], .agg [.lit (.int .u8 0), .lit (.int .u8 0)], .agg [.lit (.int .u8 0), .lit (.int .u8 0)], .agg [.lit (.int .u8 0), .lit (.int .u8 0)], .agg [.lit (.int .u8 0), .lit (.int .u8 0)], .agg [.lit (.int .u8 0), .lit (.int .u8 0)], .agg [.lit (.int .u8 0), .lit (.int .u8 0)], .agg [.lit (.int .u8 0), .lit (.int .u8 0)]]
def laid_tactus_clef_clefPitches {H : Type} : DataW H := .agg [.agg [.lit (.int .i64 0), .lit (.int .i64 4), .lit (.int .i64 0)], .agg [.lit (.int .i64 3), .lit (.int .i64 3), .lit (.int .i64 0)], .agg [.lit (.int .i64 4), .lit (.int .i64 4), .lit (.int .i64 0)]]
def laid_tactus_sign_usedBy {H : Type} : DataW H := .agg [.agg [.lit (.bool false), .lit (.bool false), .lit (.bool false), .lit (.bool false), .lit (.bool false), .lit (.bool false), .lit (.bool false), .lit (.bool false), .lit (.bool false), .lit (.bool false), .lit (.bool false), .lit (.bool false)], .agg [.lit (.bool true), .lit (.bool true), .lit (.bool true), .lit (.bool true), .lit (.bool false), .lit (.bool false), .lit (.bool false), .lit (.bool false), .lit (.bool false), .lit (.bool false), .lit (.bool false), .lit (.bool false)], .agg [.lit (.bool true), .lit (.bool false), .lit (.bool false), .lit (.bool false), .lit (.bool false), .lit (.bool false), .lit (.bool false), .lit (.bool false), .lit (.bool false), .lit (.bool false), .lit (.bool false), .lit (.bool false)], .agg [.lit (.bool false), .lit (.bool false), .lit (.bool false), .lit (.bool false), .lit (.bool false), .lit (.bool false), .lit (.bool false), .lit (.bool false), .lit (.bool false), .lit (.bool false), .lit (.bool false), .lit (.bool false)], .agg [.lit (.bool false), .lit (.bool true), .lit (.bool true), .lit (.bool true), .lit (.bool true), .lit (.bool true), .lit (.bool true), .lit (.bool false), .lit (.bool false), .lit (.bool false), .lit (.bool false), .lit (.bool false)], .agg [.lit (.bool false), .lit (.bool false), .lit (.bool false), .lit (.bool false), .lit (.bool false), .lit (.bool false), .lit (.bool false), .lit (.bool true), .lit (.bool true), .lit (.bool false), .lit (.bool false), .lit (.bool false)], .agg [.lit (.bool false), .lit (.bool false), .lit (.bool false), .lit (.bool false), .lit (.bool false), .lit (.bool false), .lit (.bool false), .lit (.bool false), .lit (.bool false), .lit (.bool true), .lit (.bool true), .lit (.bool false)], .agg [.lit (.bool false), .lit (.bool false), .lit (.bool false), .lit (.bool false), .lit (.bool false), .lit (.bool false), .lit (.bool false), .lit (.bool false), .lit (.bool false), .lit (.bool false), .lit (.bool false), .lit (.bool true)], .agg [.lit (.bool false), .lit (.bool false), .lit (.bool false), .lit (.bool false), .lit (.bool false), .lit (.bool false), .lit (.bool false), .lit (.bool false), .lit (.bool false), .lit (.bool true), .lit (.bool false), .lit (.bool false)], .agg [.lit (.bool false), .lit (.bool false), .lit (.bool false), .lit (.bool false), .lit (.bool false), .lit (.bool false), .lit (.bool false), .lit (.bool false), .lit (.bool false), .lit (.bool false), .lit (.bool false), .lit (.bool false)], .agg [.lit (.bool false), .lit (.bool false), .lit (.bool false), .lit (.bool false), .lit (.bool false), .lit (.bool false), .lit (.bool false), .lit (.bool false), .lit (.bool false), .lit (.bool true), .lit (.bool false), .lit (.bool false)], .agg [.lit (.bool false), .lit (.bool false), .lit (.bool false), .lit (.bool false), .lit (.bool false), .lit (.bool false), .lit (.bool false), .lit (.bool false), .lit (.bool false), .lit (.bool false), .lit (.bool false), .lit (.bool false)], .agg [.lit (.bool false), .lit (.bool false), .lit (.bool false), .lit (.bool false), .lit (.bool false), .lit (.bool false), .lit (.bool false), .lit (.bool false), .lit (.bool false), .lit (.bool false), .lit (.bool false), .lit (.bool false)]]
/-- One of Go's own tables, pinned by name: the form's constant. -/
def laid_unicode_utf8_first : DataW Unit := Go.Pinned.utf8First

/-- 'tactuslaw10.NotateWords': WHATEVER THE INPUT: true; the input reads as it did. -/
def notateWordsSpec : ChangeSpec := { name := "notateWords", fn := fun _ => fun
  | [d1, d2] => { results := [.lit (.bool true)], args := [d1, d2] }
  | _ => none }
def notateWordsRow : OpenClaim := { program := "ytdmedealdhadcaagreatdoor", sum := "a3b5eb64ecac000a985eed94d19897f98d0eae77964ad2721ddd8b1f34f2e892", func := "tactus/tactuslaw10.NotateWords", spec := "notateWords", inPlace := ["internal/bytealg.IndexByteString", "internal/bytealg.IndexString", "internal/abi.NoEscape"], unfollowed := true, recurses := true, named := ["unicode/utf8.first", "unicode/utf8.acceptRanges", "internal/bytealg.MaxLen", "internal/strconv.uint64pow10", "math/bits.deBruijn32tab", "math/bits.deBruijn64tab", "tactus/sign.usedBy", "tactus/clef.clefPitches"], apart := false, laid := [("math/bits.deBruijn32tab", laid_math_bits_deBruijn32tab), ("math/bits.deBruijn64tab", laid_math_bits_deBruijn64tab), ("internal/strconv.uint64pow10", laid_internal_strconv_uint64pow10), ("unicode/utf8.acceptRanges", laid_unicode_utf8_acceptRanges), ("tactus/clef.clefPitches", laid_tactus_clef_clefPitches), ("tactus/sign.usedBy", laid_tactus_sign_usedBy), ("unicode/utf8.first", laid_unicode_utf8_first)] }
def NotateWordsSaid : Prop := notateWordsRow.holds Tryz.pinned (OpenSpec.ofChange notateWordsSpec)

/-- ITS FALSE NEIGHBOUR: 'it returns false'. Refute it at one input. -/
def notateWordsWrong : ChangeSpec := { name := "notateWords", fn := fun _ => fun
  | [d1, d2] => { results := [.lit (.bool false)], args := [d1, d2] }
  | _ => none }
def NotateWordsWrongFalsely : Prop := notateWordsRow.holds Tryz.pinned (OpenSpec.ofChange notateWordsWrong)

/-- 'tactuslaw10.NotateTexts': WHATEVER THE INPUT: true; the input reads as it did. -/
def notateTextsSpec : ChangeSpec := { name := "notateTexts", fn := fun _ => fun
  | [d] => { results := [.lit (.bool true)], args := [d] }
  | _ => none }
def notateTextsRow : OpenClaim := { program := "ytdmedealdhadcaagreatdoor", sum := "a3b5eb64ecac000a985eed94d19897f98d0eae77964ad2721ddd8b1f34f2e892", func := "tactus/tactuslaw10.NotateTexts", spec := "notateTexts", inPlace := ["internal/bytealg.IndexByteString", "internal/bytealg.IndexString", "internal/abi.NoEscape"], unfollowed := true, recurses := true, named := ["unicode/utf8.first", "unicode/utf8.acceptRanges", "internal/bytealg.MaxLen", "internal/strconv.uint64pow10", "math/bits.deBruijn32tab", "math/bits.deBruijn64tab", "tactus/sign.usedBy", "tactus/clef.clefPitches"], apart := false, laid := [("math/bits.deBruijn32tab", laid_math_bits_deBruijn32tab), ("math/bits.deBruijn64tab", laid_math_bits_deBruijn64tab), ("internal/strconv.uint64pow10", laid_internal_strconv_uint64pow10), ("unicode/utf8.acceptRanges", laid_unicode_utf8_acceptRanges), ("tactus/clef.clefPitches", laid_tactus_clef_clefPitches), ("tactus/sign.usedBy", laid_tactus_sign_usedBy), ("unicode/utf8.first", laid_unicode_utf8_first)] }
def NotateTextsSaid : Prop := notateTextsRow.holds Tryz.pinned (OpenSpec.ofChange notateTextsSpec)

/-- ITS FALSE NEIGHBOUR: 'it returns false'. Refute it at one input. -/
def notateTextsWrong : ChangeSpec := { name := "notateTexts", fn := fun _ => fun
  | [d] => { results := [.lit (.bool false)], args := [d] }
  | _ => none }
def NotateTextsWrongFalsely : Prop := notateTextsRow.holds Tryz.pinned (OpenSpec.ofChange notateTextsWrong)

/-- 'tactuslaw10.NotateParses': WHATEVER THE INPUT: true; the input reads as it did. -/
def notateParsesSpec : ChangeSpec := { name := "notateParses", fn := fun _ => fun
  | [d] => { results := [.lit (.bool true)], args := [d] }
  | _ => none }
def notateParsesRow : OpenClaim := { program := "ytdmedealdhadcaagreatdoor", sum := "a3b5eb64ecac000a985eed94d19897f98d0eae77964ad2721ddd8b1f34f2e892", func := "tactus/tactuslaw10.NotateParses", spec := "notateParses", inPlace := ["internal/bytealg.IndexByteString", "internal/bytealg.IndexString", "internal/abi.NoEscape"], unfollowed := true, recurses := true, named := ["unicode/utf8.first", "unicode/utf8.acceptRanges", "internal/bytealg.MaxLen", "internal/strconv.uint64pow10", "math/bits.deBruijn32tab", "math/bits.deBruijn64tab", "tactus/sign.usedBy", "tactus/clef.clefPitches"], apart := false, laid := [("math/bits.deBruijn32tab", laid_math_bits_deBruijn32tab), ("math/bits.deBruijn64tab", laid_math_bits_deBruijn64tab), ("internal/strconv.uint64pow10", laid_internal_strconv_uint64pow10), ("unicode/utf8.acceptRanges", laid_unicode_utf8_acceptRanges), ("tactus/clef.clefPitches", laid_tactus_clef_clefPitches), ("tactus/sign.usedBy", laid_tactus_sign_usedBy), ("unicode/utf8.first", laid_unicode_utf8_first)] }
def NotateParsesSaid : Prop := notateParsesRow.holds Tryz.pinned (OpenSpec.ofChange notateParsesSpec)

/-- ITS FALSE NEIGHBOUR: 'it returns false'. Refute it at one input. -/
def notateParsesWrong : ChangeSpec := { name := "notateParses", fn := fun _ => fun
  | [d] => { results := [.lit (.bool false)], args := [d] }
  | _ => none }
def NotateParsesWrongFalsely : Prop := notateParsesRow.holds Tryz.pinned (OpenSpec.ofChange notateParsesWrong)

/-- 'tactuslaw10.NotateLetters': WHATEVER THE INPUT: true; the input reads as it did. -/
def notateLettersSpec : ChangeSpec := { name := "notateLetters", fn := fun _ => fun
  | [d1, d2] => { results := [.lit (.bool true)], args := [d1, d2] }
  | _ => none }
def notateLettersRow : OpenClaim := { program := "ytdmedealdhadcaagreatdoor", sum := "a3b5eb64ecac000a985eed94d19897f98d0eae77964ad2721ddd8b1f34f2e892", func := "tactus/tactuslaw10.NotateLetters", spec := "notateLetters", inPlace := ["internal/bytealg.IndexByteString", "internal/bytealg.IndexString", "internal/abi.NoEscape"], unfollowed := true, recurses := true, named := ["unicode/utf8.first", "unicode/utf8.acceptRanges", "internal/bytealg.MaxLen", "internal/strconv.uint64pow10", "math/bits.deBruijn32tab", "math/bits.deBruijn64tab", "tactus/sign.usedBy", "tactus/clef.clefPitches"], apart := false, laid := [("math/bits.deBruijn32tab", laid_math_bits_deBruijn32tab), ("math/bits.deBruijn64tab", laid_math_bits_deBruijn64tab), ("internal/strconv.uint64pow10", laid_internal_strconv_uint64pow10), ("unicode/utf8.acceptRanges", laid_unicode_utf8_acceptRanges), ("tactus/clef.clefPitches", laid_tactus_clef_clefPitches), ("tactus/sign.usedBy", laid_tactus_sign_usedBy), ("unicode/utf8.first", laid_unicode_utf8_first)] }
def NotateLettersSaid : Prop := notateLettersRow.holds Tryz.pinned (OpenSpec.ofChange notateLettersSpec)

/-- ITS FALSE NEIGHBOUR: 'it returns false'. Refute it at one input. -/
def notateLettersWrong : ChangeSpec := { name := "notateLetters", fn := fun _ => fun
  | [d1, d2] => { results := [.lit (.bool false)], args := [d1, d2] }
  | _ => none }
def NotateLettersWrongFalsely : Prop := notateLettersRow.holds Tryz.pinned (OpenSpec.ofChange notateLettersWrong)

/-- 'tactuslaw10.NotateKnown': WHATEVER THE INPUT: true; the input reads as it did. -/
def notateKnownSpec : ChangeSpec := { name := "notateKnown", fn := fun _ => fun
  | [] => { results := [.lit (.bool true)], args := [] }
  | _ => none }
def notateKnownRow : OpenClaim := { program := "ytdmedealdhadcaagreatdoor", sum := "a3b5eb64ecac000a985eed94d19897f98d0eae77964ad2721ddd8b1f34f2e892", func := "tactus/tactuslaw10.NotateKnown", spec := "notateKnown", inPlace := ["internal/abi.NoEscape", "internal/bytealg.IndexByteString", "internal/bytealg.IndexString"], unfollowed := true, recurses := true, named := ["tactus/sign.usedBy", "tactus/clef.clefPitches", "internal/strconv.uint64pow10", "math/bits.deBruijn32tab", "math/bits.deBruijn64tab", "unicode/utf8.first", "unicode/utf8.acceptRanges", "internal/bytealg.MaxLen"], apart := false, laid := [("math/bits.deBruijn32tab", laid_math_bits_deBruijn32tab), ("math/bits.deBruijn64tab", laid_math_bits_deBruijn64tab), ("internal/strconv.uint64pow10", laid_internal_strconv_uint64pow10), ("unicode/utf8.acceptRanges", laid_unicode_utf8_acceptRanges), ("tactus/clef.clefPitches", laid_tactus_clef_clefPitches), ("tactus/sign.usedBy", laid_tactus_sign_usedBy), ("unicode/utf8.first", laid_unicode_utf8_first)] }
def NotateKnownSaid : Prop := notateKnownRow.holds Tryz.pinned (OpenSpec.ofChange notateKnownSpec)

/-- ITS FALSE NEIGHBOUR: 'it returns false'. Refute it at one input. -/
def notateKnownWrong : ChangeSpec := { name := "notateKnown", fn := fun _ => fun
  | [] => { results := [.lit (.bool false)], args := [] }
  | _ => none }
def NotateKnownWrongFalsely : Prop := notateKnownRow.holds Tryz.pinned (OpenSpec.ofChange notateKnownWrong)

/-- 'tactuslaw10.NotateBack': WHATEVER THE INPUT: true; the input reads as it did. -/
def notateBackSpec : ChangeSpec := { name := "notateBack", fn := fun _ => fun
  | [d1, d2, d3, d4] => { results := [.lit (.bool true)], args := [d1, d2, d3, d4] }
  | _ => none }
def notateBackRow : OpenClaim := { program := "ytdmedealdhadcaagreatdoor", sum := "a3b5eb64ecac000a985eed94d19897f98d0eae77964ad2721ddd8b1f34f2e892", func := "tactus/tactuslaw10.NotateBack", spec := "notateBack", inPlace := ["internal/abi.NoEscape", "internal/bytealg.IndexByteString", "internal/bytealg.IndexString"], unfollowed := true, recurses := true, named := ["tactus/sign.usedBy", "tactus/clef.clefPitches", "internal/strconv.uint64pow10", "math/bits.deBruijn32tab", "math/bits.deBruijn64tab", "unicode/utf8.first", "unicode/utf8.acceptRanges", "internal/bytealg.MaxLen"], apart := false, laid := [("math/bits.deBruijn32tab", laid_math_bits_deBruijn32tab), ("math/bits.deBruijn64tab", laid_math_bits_deBruijn64tab), ("internal/strconv.uint64pow10", laid_internal_strconv_uint64pow10), ("unicode/utf8.acceptRanges", laid_unicode_utf8_acceptRanges), ("tactus/clef.clefPitches", laid_tactus_clef_clefPitches), ("tactus/sign.usedBy", laid_tactus_sign_usedBy), ("unicode/utf8.first", laid_unicode_utf8_first)] }
def NotateBackSaid : Prop := notateBackRow.holds Tryz.pinned (OpenSpec.ofChange notateBackSpec)

/-- ITS FALSE NEIGHBOUR: 'it returns false'. Refute it at one input. -/
def notateBackWrong : ChangeSpec := { name := "notateBack", fn := fun _ => fun
  | [d1, d2, d3, d4] => { results := [.lit (.bool false)], args := [d1, d2, d3, d4] }
  | _ => none }
def NotateBackWrongFalsely : Prop := notateBackRow.holds Tryz.pinned (OpenSpec.ofChange notateBackWrong)

/-- 'tactuslaw10.NotateLoose': WHATEVER THE INPUT: true; the input reads as it did. -/
def notateLooseSpec : ChangeSpec := { name := "notateLoose", fn := fun _ => fun
  | [d1, d2] => { results := [.lit (.bool true)], args := [d1, d2] }
  | _ => none }
def notateLooseRow : OpenClaim := { program := "ytdmedealdhadcaagreatdoor", sum := "a3b5eb64ecac000a985eed94d19897f98d0eae77964ad2721ddd8b1f34f2e892", func := "tactus/tactuslaw10.NotateLoose", spec := "notateLoose", inPlace := ["internal/abi.NoEscape", "internal/bytealg.IndexByteString", "internal/bytealg.IndexString"], unfollowed := true, recurses := true, named := ["tactus/sign.usedBy", "tactus/clef.clefPitches", "internal/strconv.uint64pow10", "math/bits.deBruijn32tab", "math/bits.deBruijn64tab", "unicode/utf8.first", "unicode/utf8.acceptRanges", "internal/bytealg.MaxLen"], apart := false, laid := [("math/bits.deBruijn32tab", laid_math_bits_deBruijn32tab), ("math/bits.deBruijn64tab", laid_math_bits_deBruijn64tab), ("internal/strconv.uint64pow10", laid_internal_strconv_uint64pow10), ("unicode/utf8.acceptRanges", laid_unicode_utf8_acceptRanges), ("tactus/clef.clefPitches", laid_tactus_clef_clefPitches), ("tactus/sign.usedBy", laid_tactus_sign_usedBy), ("unicode/utf8.first", laid_unicode_utf8_first)] }
def NotateLooseSaid : Prop := notateLooseRow.holds Tryz.pinned (OpenSpec.ofChange notateLooseSpec)

/-- ITS FALSE NEIGHBOUR: 'it returns false'. Refute it at one input. -/
def notateLooseWrong : ChangeSpec := { name := "notateLoose", fn := fun _ => fun
  | [d1, d2] => { results := [.lit (.bool false)], args := [d1, d2] }
  | _ => none }
def NotateLooseWrongFalsely : Prop := notateLooseRow.holds Tryz.pinned (OpenSpec.ofChange notateLooseWrong)

/- THE SECOND FORM. 'bulk': how many values and letters a reading holds, each counted each time it is reached (what is shared counts as often as it is met; a slice's spare places count too). A statement '..UptoSaid' is the law's where the arguments, and the package variables that the reading takes, are together of bulk at most 1048576: NARROWER than '..Said'. Prove '..Said' where nothing that the law and all that it calls make is longer than what came in: it says more and counts as full. Else prove '..UptoSaid'. A law counts once. -/
mutual
def uptoBulk {H : Type} : DataW H → Nat
  | .lit (.string bytes) => bytes.length + 1
  | .lit _ => 1
  | .nil => 1
  | .ptr d => uptoBulk d + 1
  | .slice elems spare => uptoBulkAll elems + uptoBulkAll spare + 1
  | .agg parts => uptoBulkAll parts + 1
  | .iface _ d => uptoBulk d + 1
  | .map entries => uptoBulkEntries entries + 1
  | .held _ => 1
def uptoBulkAll {H : Type} : List (DataW H) → Nat
  | [] => 0
  | d :: r => uptoBulk d + uptoBulkAll r
def uptoBulkEntries {H : Type} : List (Lit × DataW H) → Nat
  | [] => 0
  | x :: r => uptoBulkEntry x + uptoBulkEntries r
def uptoBulkEntry {H : Type} : Lit × DataW H → Nat
  | (.string bytes, d) => bytes.length + uptoBulk d + 1
  | (_, d) => uptoBulk d + 1
 end
def uptoSmall : (H : Type) → List (DataW H) → Bool := fun _ ds => decide (uptoBulkAll ds ≤ 1048576)
def OpenSpec.upto (s : _root_.Go.ChangeSpec) : _root_.Go.OpenSpec := { _root_.Go.OpenSpec.ofChange s with cond := some uptoSmall }

/-- 'tactuslaw10.NotateWords', WHERE WHAT IT READS IS OF BULK AT MOST 1048576: true; the input reads as it did. -/
def notateWordsUptoRow : OpenClaim := { program := "ytdmedealdhadcaagreatdoor", sum := "a3b5eb64ecac000a985eed94d19897f98d0eae77964ad2721ddd8b1f34f2e892", func := "tactus/tactuslaw10.NotateWords", spec := "notateWords", inPlace := ["internal/bytealg.IndexByteString", "internal/bytealg.IndexString", "internal/abi.NoEscape"], unfollowed := true, recurses := true, named := ["unicode/utf8.first", "unicode/utf8.acceptRanges", "internal/bytealg.MaxLen", "internal/strconv.uint64pow10", "math/bits.deBruijn32tab", "math/bits.deBruijn64tab", "tactus/sign.usedBy", "tactus/clef.clefPitches"], apart := false, laid := [("math/bits.deBruijn32tab", laid_math_bits_deBruijn32tab), ("math/bits.deBruijn64tab", laid_math_bits_deBruijn64tab), ("internal/strconv.uint64pow10", laid_internal_strconv_uint64pow10), ("unicode/utf8.acceptRanges", laid_unicode_utf8_acceptRanges), ("tactus/clef.clefPitches", laid_tactus_clef_clefPitches), ("tactus/sign.usedBy", laid_tactus_sign_usedBy), ("unicode/utf8.first", laid_unicode_utf8_first)], narrowed := true }
def NotateWordsUptoSaid : Prop := notateWordsUptoRow.holds Tryz.pinned (OpenSpec.upto notateWordsSpec)

/-- 'tactuslaw10.NotateTexts', WHERE WHAT IT READS IS OF BULK AT MOST 1048576: true; the input reads as it did. -/
def notateTextsUptoRow : OpenClaim := { program := "ytdmedealdhadcaagreatdoor", sum := "a3b5eb64ecac000a985eed94d19897f98d0eae77964ad2721ddd8b1f34f2e892", func := "tactus/tactuslaw10.NotateTexts", spec := "notateTexts", inPlace := ["internal/bytealg.IndexByteString", "internal/bytealg.IndexString", "internal/abi.NoEscape"], unfollowed := true, recurses := true, named := ["unicode/utf8.first", "unicode/utf8.acceptRanges", "internal/bytealg.MaxLen", "internal/strconv.uint64pow10", "math/bits.deBruijn32tab", "math/bits.deBruijn64tab", "tactus/sign.usedBy", "tactus/clef.clefPitches"], apart := false, laid := [("math/bits.deBruijn32tab", laid_math_bits_deBruijn32tab), ("math/bits.deBruijn64tab", laid_math_bits_deBruijn64tab), ("internal/strconv.uint64pow10", laid_internal_strconv_uint64pow10), ("unicode/utf8.acceptRanges", laid_unicode_utf8_acceptRanges), ("tactus/clef.clefPitches", laid_tactus_clef_clefPitches), ("tactus/sign.usedBy", laid_tactus_sign_usedBy), ("unicode/utf8.first", laid_unicode_utf8_first)], narrowed := true }
def NotateTextsUptoSaid : Prop := notateTextsUptoRow.holds Tryz.pinned (OpenSpec.upto notateTextsSpec)

/-- 'tactuslaw10.NotateParses', WHERE WHAT IT READS IS OF BULK AT MOST 1048576: true; the input reads as it did. -/
def notateParsesUptoRow : OpenClaim := { program := "ytdmedealdhadcaagreatdoor", sum := "a3b5eb64ecac000a985eed94d19897f98d0eae77964ad2721ddd8b1f34f2e892", func := "tactus/tactuslaw10.NotateParses", spec := "notateParses", inPlace := ["internal/bytealg.IndexByteString", "internal/bytealg.IndexString", "internal/abi.NoEscape"], unfollowed := true, recurses := true, named := ["unicode/utf8.first", "unicode/utf8.acceptRanges", "internal/bytealg.MaxLen", "internal/strconv.uint64pow10", "math/bits.deBruijn32tab", "math/bits.deBruijn64tab", "tactus/sign.usedBy", "tactus/clef.clefPitches"], apart := false, laid := [("math/bits.deBruijn32tab", laid_math_bits_deBruijn32tab), ("math/bits.deBruijn64tab", laid_math_bits_deBruijn64tab), ("internal/strconv.uint64pow10", laid_internal_strconv_uint64pow10), ("unicode/utf8.acceptRanges", laid_unicode_utf8_acceptRanges), ("tactus/clef.clefPitches", laid_tactus_clef_clefPitches), ("tactus/sign.usedBy", laid_tactus_sign_usedBy), ("unicode/utf8.first", laid_unicode_utf8_first)], narrowed := true }
def NotateParsesUptoSaid : Prop := notateParsesUptoRow.holds Tryz.pinned (OpenSpec.upto notateParsesSpec)

/-- 'tactuslaw10.NotateLetters', WHERE WHAT IT READS IS OF BULK AT MOST 1048576: true; the input reads as it did. -/
def notateLettersUptoRow : OpenClaim := { program := "ytdmedealdhadcaagreatdoor", sum := "a3b5eb64ecac000a985eed94d19897f98d0eae77964ad2721ddd8b1f34f2e892", func := "tactus/tactuslaw10.NotateLetters", spec := "notateLetters", inPlace := ["internal/bytealg.IndexByteString", "internal/bytealg.IndexString", "internal/abi.NoEscape"], unfollowed := true, recurses := true, named := ["unicode/utf8.first", "unicode/utf8.acceptRanges", "internal/bytealg.MaxLen", "internal/strconv.uint64pow10", "math/bits.deBruijn32tab", "math/bits.deBruijn64tab", "tactus/sign.usedBy", "tactus/clef.clefPitches"], apart := false, laid := [("math/bits.deBruijn32tab", laid_math_bits_deBruijn32tab), ("math/bits.deBruijn64tab", laid_math_bits_deBruijn64tab), ("internal/strconv.uint64pow10", laid_internal_strconv_uint64pow10), ("unicode/utf8.acceptRanges", laid_unicode_utf8_acceptRanges), ("tactus/clef.clefPitches", laid_tactus_clef_clefPitches), ("tactus/sign.usedBy", laid_tactus_sign_usedBy), ("unicode/utf8.first", laid_unicode_utf8_first)], narrowed := true }
def NotateLettersUptoSaid : Prop := notateLettersUptoRow.holds Tryz.pinned (OpenSpec.upto notateLettersSpec)

/-- 'tactuslaw10.NotateKnown', WHERE WHAT IT READS IS OF BULK AT MOST 1048576: true; the input reads as it did. -/
def notateKnownUptoRow : OpenClaim := { program := "ytdmedealdhadcaagreatdoor", sum := "a3b5eb64ecac000a985eed94d19897f98d0eae77964ad2721ddd8b1f34f2e892", func := "tactus/tactuslaw10.NotateKnown", spec := "notateKnown", inPlace := ["internal/abi.NoEscape", "internal/bytealg.IndexByteString", "internal/bytealg.IndexString"], unfollowed := true, recurses := true, named := ["tactus/sign.usedBy", "tactus/clef.clefPitches", "internal/strconv.uint64pow10", "math/bits.deBruijn32tab", "math/bits.deBruijn64tab", "unicode/utf8.first", "unicode/utf8.acceptRanges", "internal/bytealg.MaxLen"], apart := false, laid := [("math/bits.deBruijn32tab", laid_math_bits_deBruijn32tab), ("math/bits.deBruijn64tab", laid_math_bits_deBruijn64tab), ("internal/strconv.uint64pow10", laid_internal_strconv_uint64pow10), ("unicode/utf8.acceptRanges", laid_unicode_utf8_acceptRanges), ("tactus/clef.clefPitches", laid_tactus_clef_clefPitches), ("tactus/sign.usedBy", laid_tactus_sign_usedBy), ("unicode/utf8.first", laid_unicode_utf8_first)], narrowed := true }
def NotateKnownUptoSaid : Prop := notateKnownUptoRow.holds Tryz.pinned (OpenSpec.upto notateKnownSpec)

/-- 'tactuslaw10.NotateBack', WHERE WHAT IT READS IS OF BULK AT MOST 1048576: true; the input reads as it did. -/
def notateBackUptoRow : OpenClaim := { program := "ytdmedealdhadcaagreatdoor", sum := "a3b5eb64ecac000a985eed94d19897f98d0eae77964ad2721ddd8b1f34f2e892", func := "tactus/tactuslaw10.NotateBack", spec := "notateBack", inPlace := ["internal/abi.NoEscape", "internal/bytealg.IndexByteString", "internal/bytealg.IndexString"], unfollowed := true, recurses := true, named := ["tactus/sign.usedBy", "tactus/clef.clefPitches", "internal/strconv.uint64pow10", "math/bits.deBruijn32tab", "math/bits.deBruijn64tab", "unicode/utf8.first", "unicode/utf8.acceptRanges", "internal/bytealg.MaxLen"], apart := false, laid := [("math/bits.deBruijn32tab", laid_math_bits_deBruijn32tab), ("math/bits.deBruijn64tab", laid_math_bits_deBruijn64tab), ("internal/strconv.uint64pow10", laid_internal_strconv_uint64pow10), ("unicode/utf8.acceptRanges", laid_unicode_utf8_acceptRanges), ("tactus/clef.clefPitches", laid_tactus_clef_clefPitches), ("tactus/sign.usedBy", laid_tactus_sign_usedBy), ("unicode/utf8.first", laid_unicode_utf8_first)], narrowed := true }
def NotateBackUptoSaid : Prop := notateBackUptoRow.holds Tryz.pinned (OpenSpec.upto notateBackSpec)

/-- 'tactuslaw10.NotateLoose', WHERE WHAT IT READS IS OF BULK AT MOST 1048576: true; the input reads as it did. -/
def notateLooseUptoRow : OpenClaim := { program := "ytdmedealdhadcaagreatdoor", sum := "a3b5eb64ecac000a985eed94d19897f98d0eae77964ad2721ddd8b1f34f2e892", func := "tactus/tactuslaw10.NotateLoose", spec := "notateLoose", inPlace := ["internal/abi.NoEscape", "internal/bytealg.IndexByteString", "internal/bytealg.IndexString"], unfollowed := true, recurses := true, named := ["tactus/sign.usedBy", "tactus/clef.clefPitches", "internal/strconv.uint64pow10", "math/bits.deBruijn32tab", "math/bits.deBruijn64tab", "unicode/utf8.first", "unicode/utf8.acceptRanges", "internal/bytealg.MaxLen"], apart := false, laid := [("math/bits.deBruijn32tab", laid_math_bits_deBruijn32tab), ("math/bits.deBruijn64tab", laid_math_bits_deBruijn64tab), ("internal/strconv.uint64pow10", laid_internal_strconv_uint64pow10), ("unicode/utf8.acceptRanges", laid_unicode_utf8_acceptRanges), ("tactus/clef.clefPitches", laid_tactus_clef_clefPitches), ("tactus/sign.usedBy", laid_tactus_sign_usedBy), ("unicode/utf8.first", laid_unicode_utf8_first)], narrowed := true }
def NotateLooseUptoSaid : Prop := notateLooseUptoRow.holds Tryz.pinned (OpenSpec.upto notateLooseSpec)

end Rows
end Go.Proofs.YtdmedealdhadcaaGreatDoor
