/-
  NARROWER THAN 'FOR EVERY INPUT', by the rows' own cells (each row's printed sentence says how): SoundNumbers: laid · SoundSamples: laid · SoundLevels: laid · SoundSums: laid · SoundHours: laid · SoundLosses: laid · SoundPackets: laid · SoundReceives: laid · SoundStreams: laid · SoundStrings: laid · SoundAdds: laid · SoundTurns: laid · SoundSealed: laid · SoundBack: laid.
  DERIVED. THE GIVEN ROWS OF THIS SEAT. 14 by the template 'for every input the law returns true; each argument reads behind the call as it read before'; 0 by the template 'total and deterministic' (their statements: YtoipafnlcchmbaaGreatDoorTotals.lean).
  GIVEN WITH THE SEED: the statements are not yours to turn. If you find one false, say at which input.
  Laid BY PROGRAM, IN A SANDBOX (cutbox-rows.mjs): the forced cells as the released guide's own fill.sh prints them over the translation c7d5286f44c32f70… (all of the seat's roots in one cut). By AI agents, Wed Nov 11 2026. No macro, syntax, notation, axiom, sorry.
-/
import Derived.Test.YtoipafnlcchmbaaGreatDoorChecked
import GoSem.PinnedTables
import GoSem.Claim
import GoSem.ClaimJoined
import GoSem.ClaimMapViews
import Derived.JoinedTies
import Derived.KernelRfl
namespace Go.Proofs.YtoipafnlcchmbaaGreatDoor
/- THE CELL 'sum', in the pinned program and in every row, IS THE sha256 OF THE DUMP (.gsa) THAT YtoipafnlcchmbaaGreatDoorProg.lean LOADS. Nothing in Lean hashes anything: it is a label: what it is worth is what the hold of that sum in a sandbox is worth. -/
noncomputable def Tryz.pinned : Pinned := { name := "ytoipafnlcchmbaagreatdoor", sum := "c7d5286f44c32f70ed27087d1bbae8fbb580aeb0939f7f0ee3ee2872ffcc03aa", checked := Tryz.checked }
namespace Rows
def none {H : Type} : Left H := { results := [], args := [] }

/- WHAT THE LISTED PACKAGE-LEVEL VARIABLES READ AS WHEN THE CALL BEGINS. Each datum BY PROGRAM (the guide's laid-datum.mjs) off the statement by which the dump's own 'gosem.cut.vars' lays the variable. In a bare row this is a premise. The card (YtoipafnlcchmbaaGreatDoorCards.lean) ties it to the program's text. -/
def laid_math_bits_deBruijn32tab {H : Type} : DataW H := .agg [.lit (.int .u8 0), .lit (.int .u8 1), .lit (.int .u8 28), .lit (.int .u8 2), .lit (.int .u8 29), .lit (.int .u8 14), .lit (.int .u8 24), .lit (.int .u8 3), .lit (.int .u8 30), .lit (.int .u8 22), .lit (.int .u8 20), .lit (.int .u8 15), .lit (.int .u8 25), .lit (.int .u8 17), .lit (.int .u8 4), .lit (.int .u8 8), .lit (.int .u8 31), .lit (.int .u8 27), .lit (.int .u8 13), .lit (.int .u8 23), .lit (.int .u8 21), .lit (.int .u8 19), .lit (.int .u8 16), .lit (.int .u8 7), .lit (.int .u8 26), .lit (.int .u8 12), .lit (.int .u8 18), .lit (.int .u8 6), .lit (.int .u8 11), .lit (.int .u8 5), .lit (.int .u8 10), .lit (.int .u8 9)]
def laid_math_bits_deBruijn64tab {H : Type} : DataW H := .agg [.lit (.int .u8 0), .lit (.int .u8 1), .lit (.int .u8 56), .lit (.int .u8 2), .lit (.int .u8 57), .lit (.int .u8 49), .lit (.int .u8 28), .lit (.int .u8 3), .lit (.int .u8 61), .lit (.int .u8 58), .lit (.int .u8 42), .lit (.int .u8 50), .lit (.int .u8 38), .lit (.int .u8 29), .lit (.int .u8 17), .lit (.int .u8 4), .lit (.int .u8 62), .lit (.int .u8 47), .lit (.int .u8 59), .lit (.int .u8 36), .lit (.int .u8 45), .lit (.int .u8 43), .lit (.int .u8 51), .lit (.int .u8 22), .lit (.int .u8 53), .lit (.int .u8 39), .lit (.int .u8 33), .lit (.int .u8 30), .lit (.int .u8 24), .lit (.int .u8 18), .lit (.int .u8 12), .lit (.int .u8 5), .lit (.int .u8 63), .lit (.int .u8 55), .lit (.int .u8 48), .lit (.int .u8 27), .lit (.int .u8 60), .lit (.int .u8 41), .lit (.int .u8 37), .lit (.int .u8 16), .lit (.int .u8 46), .lit (.int .u8 35), .lit (.int .u8 44), .lit (.int .u8 21), .lit (.int .u8 52), .lit (.int .u8 32), .lit (.int .u8 23), .lit (.int .u8 11), .lit (.int .u8 54), .lit (.int .u8 26), .lit (.int .u8 40), .lit (.int .u8 15), .lit (.int .u8 34), .lit (.int .u8 20), .lit (.int .u8 31), .lit (.int .u8 10), .lit (.int .u8 25), .lit (.int .u8 14), .lit (.int .u8 19), .lit (.int .u8 9), .lit (.int .u8 13), .lit (.int .u8 8), .lit (.int .u8 7), .lit (.int .u8 6)]
def laid_internal_strconv_uint64pow10 {H : Type} : DataW H := .agg [.lit (.int .u64 1), .lit (.int .u64 10), .lit (.int .u64 100), .lit (.int .u64 1000), .lit (.int .u64 10000), .lit (.int .u64 100000), .lit (.int .u64 1000000), .lit (.int .u64 10000000), .lit (.int .u64 100000000), .lit (.int .u64 1000000000), .lit (.int .u64 10000000000), .lit (.int .u64 100000000000), .lit (.int .u64 1000000000000), .lit (.int .u64 10000000000000), .lit (.int .u64 100000000000000), .lit (.int .u64 1000000000000000), .lit (.int .u64 10000000000000000), .lit (.int .u64 100000000000000000), .lit (.int .u64 1000000000000000000), .lit (.int .u64 10000000000000000000)]
def laid_flyover_sound_steps {H : Type} : DataW H := .agg [.lit (.int .i64 10), .lit (.int .i64 13), .lit (.int .i64 16), .lit (.int .i64 20), .lit (.int .i64 25), .lit (.int .i64 32), .lit (.int .i64 40), .lit (.int .i64 50), .lit (.int .i64 63), .lit (.int .i64 79)]
def laid_unicode_utf8_acceptRanges {H : Type} : DataW H := .agg [.agg [.lit (.int .u8 128), .lit (.int .u8 191)], .agg [.lit (.int .u8 160), .lit (.int .u8 191)], .agg [.lit (.int .u8 128), .lit (.int .u8 159)], .agg [.lit (.int .u8 144), .lit (.int .u8 191)], .agg [.lit (.int .u8 128), .lit (.int .u8 143)], .agg [.lit (.int .u8 0), .lit (.int .u8 0)], .agg [.lit (.int .u8 0), .lit (.int .u8 0)], .agg [.lit (.int .u8 0), .lit (.int .u8 0)], .agg [.lit (.int .u8 0), .lit (.int .u8 0)], .agg [.lit (.int .u8 0), .lit (.int .u8 0)], .agg [.lit (.int .u8 0), .lit (.int .u8 0)], .agg [.lit (.int .u8 0), .lit (.int .u8 0)], .agg [.lit (.int .u8 0), .lit (.int .u8 0)], .agg [.lit (.int .u8 0), .lit (.int .u8 0)], .agg [.lit (.int .u8 0), .lit (.int .u8 0)], .agg [.lit (.int .u8 0), .lit (.int .u8 0)]]
/-- One of Go's own tables, pinned by name: the form's constant. -/
def laid_unicode_utf8_first : DataW Unit := Go.Pinned.utf8First

/-- 'flyoverlaw01.SoundNumbers': WHATEVER THE INPUT: true; the input reads as it did. -/
def soundNumbersSpec : ChangeSpec := { name := "soundNumbers", fn := fun _ => fun
  | [d1, d2, d3] => { results := [.lit (.bool true)], args := [d1, d2, d3] }
  | _ => none }
def soundNumbersRow : OpenClaim := { program := "ytoipafnlcchmbaagreatdoor", sum := "c7d5286f44c32f70ed27087d1bbae8fbb580aeb0939f7f0ee3ee2872ffcc03aa", func := "flyover/flyoverlaw01.SoundNumbers", spec := "soundNumbers", inPlace := ["math.Float64bits", "math.Float64frombits", "math.archTrunc", "math.Float32bits", "math.Float32frombits", "internal/abi.NoEscape", "internal/bytealg.MakeNoZero"], unfollowed := true, recurses := true, named := ["flyover/sound.steps", "internal/strconv.uint64pow10", "math/bits.deBruijn32tab", "math/bits.deBruijn64tab"], apart := false, laid := [("math/bits.deBruijn32tab", laid_math_bits_deBruijn32tab), ("math/bits.deBruijn64tab", laid_math_bits_deBruijn64tab), ("internal/strconv.uint64pow10", laid_internal_strconv_uint64pow10), ("flyover/sound.steps", laid_flyover_sound_steps)] }
def SoundNumbersSaid : Prop := soundNumbersRow.holds Tryz.pinned (OpenSpec.ofChange soundNumbersSpec)

/-- ITS FALSE NEIGHBOUR: 'it returns false'. Refute it at one input. -/
def soundNumbersWrong : ChangeSpec := { name := "soundNumbers", fn := fun _ => fun
  | [d1, d2, d3] => { results := [.lit (.bool false)], args := [d1, d2, d3] }
  | _ => none }
def SoundNumbersWrongFalsely : Prop := soundNumbersRow.holds Tryz.pinned (OpenSpec.ofChange soundNumbersWrong)

/-- 'flyoverlaw01.SoundSamples': WHATEVER THE INPUT: true; the input reads as it did. -/
def soundSamplesSpec : ChangeSpec := { name := "soundSamples", fn := fun _ => fun
  | [d1, d2] => { results := [.lit (.bool true)], args := [d1, d2] }
  | _ => none }
def soundSamplesRow : OpenClaim := { program := "ytoipafnlcchmbaagreatdoor", sum := "c7d5286f44c32f70ed27087d1bbae8fbb580aeb0939f7f0ee3ee2872ffcc03aa", func := "flyover/flyoverlaw01.SoundSamples", spec := "soundSamples", inPlace := ["math.Float64bits", "math.Float64frombits", "math.archTrunc", "math.Float32bits", "math.Float32frombits", "internal/abi.NoEscape", "internal/bytealg.MakeNoZero"], unfollowed := true, recurses := true, named := ["flyover/sound.steps", "internal/strconv.uint64pow10", "math/bits.deBruijn32tab", "math/bits.deBruijn64tab"], apart := false, laid := [("math/bits.deBruijn32tab", laid_math_bits_deBruijn32tab), ("math/bits.deBruijn64tab", laid_math_bits_deBruijn64tab), ("internal/strconv.uint64pow10", laid_internal_strconv_uint64pow10), ("flyover/sound.steps", laid_flyover_sound_steps)] }
def SoundSamplesSaid : Prop := soundSamplesRow.holds Tryz.pinned (OpenSpec.ofChange soundSamplesSpec)

/-- ITS FALSE NEIGHBOUR: 'it returns false'. Refute it at one input. -/
def soundSamplesWrong : ChangeSpec := { name := "soundSamples", fn := fun _ => fun
  | [d1, d2] => { results := [.lit (.bool false)], args := [d1, d2] }
  | _ => none }
def SoundSamplesWrongFalsely : Prop := soundSamplesRow.holds Tryz.pinned (OpenSpec.ofChange soundSamplesWrong)

/-- 'flyoverlaw01.SoundLevels': WHATEVER THE INPUT: true; the input reads as it did. -/
def soundLevelsSpec : ChangeSpec := { name := "soundLevels", fn := fun _ => fun
  | [d1, d2] => { results := [.lit (.bool true)], args := [d1, d2] }
  | _ => none }
def soundLevelsRow : OpenClaim := { program := "ytoipafnlcchmbaagreatdoor", sum := "c7d5286f44c32f70ed27087d1bbae8fbb580aeb0939f7f0ee3ee2872ffcc03aa", func := "flyover/flyoverlaw01.SoundLevels", spec := "soundLevels", inPlace := ["math.Float64bits", "math.Float64frombits", "math.archTrunc", "math.Float32bits", "math.Float32frombits", "internal/abi.NoEscape", "internal/bytealg.MakeNoZero"], unfollowed := true, recurses := true, named := ["flyover/sound.steps", "internal/strconv.uint64pow10", "math/bits.deBruijn32tab", "math/bits.deBruijn64tab"], apart := false, laid := [("math/bits.deBruijn32tab", laid_math_bits_deBruijn32tab), ("math/bits.deBruijn64tab", laid_math_bits_deBruijn64tab), ("internal/strconv.uint64pow10", laid_internal_strconv_uint64pow10), ("flyover/sound.steps", laid_flyover_sound_steps)] }
def SoundLevelsSaid : Prop := soundLevelsRow.holds Tryz.pinned (OpenSpec.ofChange soundLevelsSpec)

/-- ITS FALSE NEIGHBOUR: 'it returns false'. Refute it at one input. -/
def soundLevelsWrong : ChangeSpec := { name := "soundLevels", fn := fun _ => fun
  | [d1, d2] => { results := [.lit (.bool false)], args := [d1, d2] }
  | _ => none }
def SoundLevelsWrongFalsely : Prop := soundLevelsRow.holds Tryz.pinned (OpenSpec.ofChange soundLevelsWrong)

/-- 'flyoverlaw01.SoundSums': WHATEVER THE INPUT: true; the input reads as it did. -/
def soundSumsSpec : ChangeSpec := { name := "soundSums", fn := fun _ => fun
  | [d1, d2] => { results := [.lit (.bool true)], args := [d1, d2] }
  | _ => none }
def soundSumsRow : OpenClaim := { program := "ytoipafnlcchmbaagreatdoor", sum := "c7d5286f44c32f70ed27087d1bbae8fbb580aeb0939f7f0ee3ee2872ffcc03aa", func := "flyover/flyoverlaw01.SoundSums", spec := "soundSums", inPlace := ["math.Float64bits", "math.Float64frombits", "math.archTrunc", "math.Float32bits", "math.Float32frombits", "internal/abi.NoEscape", "internal/bytealg.MakeNoZero"], unfollowed := true, recurses := true, named := ["flyover/sound.steps", "internal/strconv.uint64pow10", "math/bits.deBruijn32tab", "math/bits.deBruijn64tab"], apart := false, laid := [("math/bits.deBruijn32tab", laid_math_bits_deBruijn32tab), ("math/bits.deBruijn64tab", laid_math_bits_deBruijn64tab), ("internal/strconv.uint64pow10", laid_internal_strconv_uint64pow10), ("flyover/sound.steps", laid_flyover_sound_steps)] }
def SoundSumsSaid : Prop := soundSumsRow.holds Tryz.pinned (OpenSpec.ofChange soundSumsSpec)

/-- ITS FALSE NEIGHBOUR: 'it returns false'. Refute it at one input. -/
def soundSumsWrong : ChangeSpec := { name := "soundSums", fn := fun _ => fun
  | [d1, d2] => { results := [.lit (.bool false)], args := [d1, d2] }
  | _ => none }
def SoundSumsWrongFalsely : Prop := soundSumsRow.holds Tryz.pinned (OpenSpec.ofChange soundSumsWrong)

/-- 'flyoverlaw01.SoundHours': WHATEVER THE INPUT: true; the input reads as it did. -/
def soundHoursSpec : ChangeSpec := { name := "soundHours", fn := fun _ => fun
  | [d1, d2, d3] => { results := [.lit (.bool true)], args := [d1, d2, d3] }
  | _ => none }
def soundHoursRow : OpenClaim := { program := "ytoipafnlcchmbaagreatdoor", sum := "c7d5286f44c32f70ed27087d1bbae8fbb580aeb0939f7f0ee3ee2872ffcc03aa", func := "flyover/flyoverlaw01.SoundHours", spec := "soundHours", inPlace := ["math.Float64bits", "math.Float64frombits", "math.archTrunc", "math.Float32bits", "math.Float32frombits", "internal/abi.NoEscape", "internal/bytealg.MakeNoZero"], unfollowed := true, recurses := true, named := ["flyover/sound.steps", "internal/strconv.uint64pow10", "math/bits.deBruijn32tab", "math/bits.deBruijn64tab"], apart := false, laid := [("math/bits.deBruijn32tab", laid_math_bits_deBruijn32tab), ("math/bits.deBruijn64tab", laid_math_bits_deBruijn64tab), ("internal/strconv.uint64pow10", laid_internal_strconv_uint64pow10), ("flyover/sound.steps", laid_flyover_sound_steps)] }
def SoundHoursSaid : Prop := soundHoursRow.holds Tryz.pinned (OpenSpec.ofChange soundHoursSpec)

/-- ITS FALSE NEIGHBOUR: 'it returns false'. Refute it at one input. -/
def soundHoursWrong : ChangeSpec := { name := "soundHours", fn := fun _ => fun
  | [d1, d2, d3] => { results := [.lit (.bool false)], args := [d1, d2, d3] }
  | _ => none }
def SoundHoursWrongFalsely : Prop := soundHoursRow.holds Tryz.pinned (OpenSpec.ofChange soundHoursWrong)

/-- 'flyoverlaw01.SoundLosses': WHATEVER THE INPUT: true; the input reads as it did. -/
def soundLossesSpec : ChangeSpec := { name := "soundLosses", fn := fun _ => fun
  | [d1, d2, d3] => { results := [.lit (.bool true)], args := [d1, d2, d3] }
  | _ => none }
def soundLossesRow : OpenClaim := { program := "ytoipafnlcchmbaagreatdoor", sum := "c7d5286f44c32f70ed27087d1bbae8fbb580aeb0939f7f0ee3ee2872ffcc03aa", func := "flyover/flyoverlaw01.SoundLosses", spec := "soundLosses", inPlace := ["math.Float64bits", "math.Float64frombits", "math.archTrunc", "math.Float32bits", "math.Float32frombits", "internal/abi.NoEscape", "internal/bytealg.MakeNoZero"], unfollowed := true, recurses := true, named := ["flyover/sound.steps", "internal/strconv.uint64pow10", "math/bits.deBruijn32tab", "math/bits.deBruijn64tab"], apart := false, laid := [("math/bits.deBruijn32tab", laid_math_bits_deBruijn32tab), ("math/bits.deBruijn64tab", laid_math_bits_deBruijn64tab), ("internal/strconv.uint64pow10", laid_internal_strconv_uint64pow10), ("flyover/sound.steps", laid_flyover_sound_steps)] }
def SoundLossesSaid : Prop := soundLossesRow.holds Tryz.pinned (OpenSpec.ofChange soundLossesSpec)

/-- ITS FALSE NEIGHBOUR: 'it returns false'. Refute it at one input. -/
def soundLossesWrong : ChangeSpec := { name := "soundLosses", fn := fun _ => fun
  | [d1, d2, d3] => { results := [.lit (.bool false)], args := [d1, d2, d3] }
  | _ => none }
def SoundLossesWrongFalsely : Prop := soundLossesRow.holds Tryz.pinned (OpenSpec.ofChange soundLossesWrong)

/-- 'flyoverlaw01.SoundPackets': WHATEVER THE INPUT: true; the input reads as it did. -/
def soundPacketsSpec : ChangeSpec := { name := "soundPackets", fn := fun _ => fun
  | [d1, d2, d3] => { results := [.lit (.bool true)], args := [d1, d2, d3] }
  | _ => none }
def soundPacketsRow : OpenClaim := { program := "ytoipafnlcchmbaagreatdoor", sum := "c7d5286f44c32f70ed27087d1bbae8fbb580aeb0939f7f0ee3ee2872ffcc03aa", func := "flyover/flyoverlaw01.SoundPackets", spec := "soundPackets", inPlace := ["math.Float64bits", "math.Float64frombits", "math.archTrunc", "math.Float32bits", "math.Float32frombits", "internal/abi.NoEscape", "internal/bytealg.MakeNoZero"], unfollowed := true, recurses := true, named := ["flyover/sound.steps", "internal/strconv.uint64pow10", "math/bits.deBruijn32tab", "math/bits.deBruijn64tab"], apart := false, laid := [("math/bits.deBruijn32tab", laid_math_bits_deBruijn32tab), ("math/bits.deBruijn64tab", laid_math_bits_deBruijn64tab), ("internal/strconv.uint64pow10", laid_internal_strconv_uint64pow10), ("flyover/sound.steps", laid_flyover_sound_steps)] }
def SoundPacketsSaid : Prop := soundPacketsRow.holds Tryz.pinned (OpenSpec.ofChange soundPacketsSpec)

/-- ITS FALSE NEIGHBOUR: 'it returns false'. Refute it at one input. -/
def soundPacketsWrong : ChangeSpec := { name := "soundPackets", fn := fun _ => fun
  | [d1, d2, d3] => { results := [.lit (.bool false)], args := [d1, d2, d3] }
  | _ => none }
def SoundPacketsWrongFalsely : Prop := soundPacketsRow.holds Tryz.pinned (OpenSpec.ofChange soundPacketsWrong)

/-- 'flyoverlaw01.SoundReceives': WHATEVER THE INPUT: true; the input reads as it did. -/
def soundReceivesSpec : ChangeSpec := { name := "soundReceives", fn := fun _ => fun
  | [d1, d2, d3] => { results := [.lit (.bool true)], args := [d1, d2, d3] }
  | _ => none }
def soundReceivesRow : OpenClaim := { program := "ytoipafnlcchmbaagreatdoor", sum := "c7d5286f44c32f70ed27087d1bbae8fbb580aeb0939f7f0ee3ee2872ffcc03aa", func := "flyover/flyoverlaw01.SoundReceives", spec := "soundReceives", inPlace := ["math.Float64bits", "math.Float64frombits", "math.archTrunc", "math.Float32bits", "math.Float32frombits", "internal/abi.NoEscape", "internal/bytealg.MakeNoZero"], unfollowed := true, recurses := true, named := ["flyover/sound.steps", "internal/strconv.uint64pow10", "math/bits.deBruijn32tab", "math/bits.deBruijn64tab"], apart := false, laid := [("math/bits.deBruijn32tab", laid_math_bits_deBruijn32tab), ("math/bits.deBruijn64tab", laid_math_bits_deBruijn64tab), ("internal/strconv.uint64pow10", laid_internal_strconv_uint64pow10), ("flyover/sound.steps", laid_flyover_sound_steps)] }
def SoundReceivesSaid : Prop := soundReceivesRow.holds Tryz.pinned (OpenSpec.ofChange soundReceivesSpec)

/-- ITS FALSE NEIGHBOUR: 'it returns false'. Refute it at one input. -/
def soundReceivesWrong : ChangeSpec := { name := "soundReceives", fn := fun _ => fun
  | [d1, d2, d3] => { results := [.lit (.bool false)], args := [d1, d2, d3] }
  | _ => none }
def SoundReceivesWrongFalsely : Prop := soundReceivesRow.holds Tryz.pinned (OpenSpec.ofChange soundReceivesWrong)

/-- 'flyoverlaw01.SoundStreams': WHATEVER THE INPUT: true; the input reads as it did. -/
def soundStreamsSpec : ChangeSpec := { name := "soundStreams", fn := fun _ => fun
  | [d1, d2] => { results := [.lit (.bool true)], args := [d1, d2] }
  | _ => none }
def soundStreamsRow : OpenClaim := { program := "ytoipafnlcchmbaagreatdoor", sum := "c7d5286f44c32f70ed27087d1bbae8fbb580aeb0939f7f0ee3ee2872ffcc03aa", func := "flyover/flyoverlaw01.SoundStreams", spec := "soundStreams", inPlace := ["math.Float64bits", "math.Float64frombits", "math.archTrunc", "math.Float32bits", "math.Float32frombits", "internal/abi.NoEscape", "internal/bytealg.MakeNoZero"], unfollowed := true, recurses := true, named := ["flyover/sound.steps", "internal/strconv.uint64pow10", "math/bits.deBruijn32tab", "math/bits.deBruijn64tab"], apart := false, laid := [("math/bits.deBruijn32tab", laid_math_bits_deBruijn32tab), ("math/bits.deBruijn64tab", laid_math_bits_deBruijn64tab), ("internal/strconv.uint64pow10", laid_internal_strconv_uint64pow10), ("flyover/sound.steps", laid_flyover_sound_steps)] }
def SoundStreamsSaid : Prop := soundStreamsRow.holds Tryz.pinned (OpenSpec.ofChange soundStreamsSpec)

/-- ITS FALSE NEIGHBOUR: 'it returns false'. Refute it at one input. -/
def soundStreamsWrong : ChangeSpec := { name := "soundStreams", fn := fun _ => fun
  | [d1, d2] => { results := [.lit (.bool false)], args := [d1, d2] }
  | _ => none }
def SoundStreamsWrongFalsely : Prop := soundStreamsRow.holds Tryz.pinned (OpenSpec.ofChange soundStreamsWrong)

/-- 'flyoverlaw01.SoundStrings': WHATEVER THE INPUT: true; the input reads as it did. -/
def soundStringsSpec : ChangeSpec := { name := "soundStrings", fn := fun _ => fun
  | [d1, d2] => { results := [.lit (.bool true)], args := [d1, d2] }
  | _ => none }
def soundStringsRow : OpenClaim := { program := "ytoipafnlcchmbaagreatdoor", sum := "c7d5286f44c32f70ed27087d1bbae8fbb580aeb0939f7f0ee3ee2872ffcc03aa", func := "flyover/flyoverlaw01.SoundStrings", spec := "soundStrings", inPlace := ["math.Float64bits", "math.Float64frombits", "math.archTrunc", "math.Float32bits", "math.Float32frombits", "internal/abi.NoEscape", "internal/bytealg.MakeNoZero", "internal/bytealg.CountString", "internal/bytealg.IndexByteString", "internal/bytealg.IndexString"], unfollowed := true, recurses := true, named := ["flyover/sound.steps", "internal/strconv.uint64pow10", "math/bits.deBruijn32tab", "math/bits.deBruijn64tab", "unicode/utf8.first", "unicode/utf8.acceptRanges", "internal/bytealg.MaxLen"], apart := false, laid := [("math/bits.deBruijn32tab", laid_math_bits_deBruijn32tab), ("math/bits.deBruijn64tab", laid_math_bits_deBruijn64tab), ("internal/strconv.uint64pow10", laid_internal_strconv_uint64pow10), ("unicode/utf8.acceptRanges", laid_unicode_utf8_acceptRanges), ("flyover/sound.steps", laid_flyover_sound_steps), ("unicode/utf8.first", laid_unicode_utf8_first)] }
def SoundStringsSaid : Prop := soundStringsRow.holds Tryz.pinned (OpenSpec.ofChange soundStringsSpec)

/-- ITS FALSE NEIGHBOUR: 'it returns false'. Refute it at one input. -/
def soundStringsWrong : ChangeSpec := { name := "soundStrings", fn := fun _ => fun
  | [d1, d2] => { results := [.lit (.bool false)], args := [d1, d2] }
  | _ => none }
def SoundStringsWrongFalsely : Prop := soundStringsRow.holds Tryz.pinned (OpenSpec.ofChange soundStringsWrong)

/-- 'flyoverlaw01.SoundAdds': WHATEVER THE INPUT: true; the input reads as it did. -/
def soundAddsSpec : ChangeSpec := { name := "soundAdds", fn := fun _ => fun
  | [d1, d2] => { results := [.lit (.bool true)], args := [d1, d2] }
  | _ => none }
def soundAddsRow : OpenClaim := { program := "ytoipafnlcchmbaagreatdoor", sum := "c7d5286f44c32f70ed27087d1bbae8fbb580aeb0939f7f0ee3ee2872ffcc03aa", func := "flyover/flyoverlaw01.SoundAdds", spec := "soundAdds", inPlace := ["math.Float64bits", "math.Float64frombits", "math.archTrunc", "math.Float32bits", "math.Float32frombits", "internal/abi.NoEscape", "internal/bytealg.MakeNoZero"], unfollowed := true, recurses := true, named := ["flyover/sound.steps", "internal/strconv.uint64pow10", "math/bits.deBruijn32tab", "math/bits.deBruijn64tab"], apart := false, laid := [("math/bits.deBruijn32tab", laid_math_bits_deBruijn32tab), ("math/bits.deBruijn64tab", laid_math_bits_deBruijn64tab), ("internal/strconv.uint64pow10", laid_internal_strconv_uint64pow10), ("flyover/sound.steps", laid_flyover_sound_steps)] }
def SoundAddsSaid : Prop := soundAddsRow.holds Tryz.pinned (OpenSpec.ofChange soundAddsSpec)

/-- ITS FALSE NEIGHBOUR: 'it returns false'. Refute it at one input. -/
def soundAddsWrong : ChangeSpec := { name := "soundAdds", fn := fun _ => fun
  | [d1, d2] => { results := [.lit (.bool false)], args := [d1, d2] }
  | _ => none }
def SoundAddsWrongFalsely : Prop := soundAddsRow.holds Tryz.pinned (OpenSpec.ofChange soundAddsWrong)

/-- 'flyoverlaw01.SoundTurns': WHATEVER THE INPUT: true; the input reads as it did. -/
def soundTurnsSpec : ChangeSpec := { name := "soundTurns", fn := fun _ => fun
  | [d1, d2] => { results := [.lit (.bool true)], args := [d1, d2] }
  | _ => none }
def soundTurnsRow : OpenClaim := { program := "ytoipafnlcchmbaagreatdoor", sum := "c7d5286f44c32f70ed27087d1bbae8fbb580aeb0939f7f0ee3ee2872ffcc03aa", func := "flyover/flyoverlaw01.SoundTurns", spec := "soundTurns", inPlace := ["math.Float64bits", "math.Float64frombits", "math.archTrunc", "math.Float32bits", "math.Float32frombits", "internal/abi.NoEscape", "internal/bytealg.MakeNoZero"], unfollowed := true, recurses := true, named := ["flyover/sound.steps", "internal/strconv.uint64pow10", "math/bits.deBruijn32tab", "math/bits.deBruijn64tab"], apart := false, laid := [("math/bits.deBruijn32tab", laid_math_bits_deBruijn32tab), ("math/bits.deBruijn64tab", laid_math_bits_deBruijn64tab), ("internal/strconv.uint64pow10", laid_internal_strconv_uint64pow10), ("flyover/sound.steps", laid_flyover_sound_steps)] }
def SoundTurnsSaid : Prop := soundTurnsRow.holds Tryz.pinned (OpenSpec.ofChange soundTurnsSpec)

/-- ITS FALSE NEIGHBOUR: 'it returns false'. Refute it at one input. -/
def soundTurnsWrong : ChangeSpec := { name := "soundTurns", fn := fun _ => fun
  | [d1, d2] => { results := [.lit (.bool false)], args := [d1, d2] }
  | _ => none }
def SoundTurnsWrongFalsely : Prop := soundTurnsRow.holds Tryz.pinned (OpenSpec.ofChange soundTurnsWrong)

/-- 'flyoverlaw01.SoundSealed': WHATEVER THE INPUT: true; the input reads as it did. -/
def soundSealedSpec : ChangeSpec := { name := "soundSealed", fn := fun _ => fun
  | [d1, d2, d3] => { results := [.lit (.bool true)], args := [d1, d2, d3] }
  | _ => none }
def soundSealedRow : OpenClaim := { program := "ytoipafnlcchmbaagreatdoor", sum := "c7d5286f44c32f70ed27087d1bbae8fbb580aeb0939f7f0ee3ee2872ffcc03aa", func := "flyover/flyoverlaw01.SoundSealed", spec := "soundSealed", inPlace := ["math.Float64bits", "math.Float64frombits", "math.archTrunc", "math.Float32bits", "math.Float32frombits", "internal/abi.NoEscape", "internal/bytealg.MakeNoZero"], unfollowed := true, recurses := true, named := ["flyover/sound.steps", "internal/strconv.uint64pow10", "math/bits.deBruijn32tab", "math/bits.deBruijn64tab"], apart := false, laid := [("math/bits.deBruijn32tab", laid_math_bits_deBruijn32tab), ("math/bits.deBruijn64tab", laid_math_bits_deBruijn64tab), ("internal/strconv.uint64pow10", laid_internal_strconv_uint64pow10), ("flyover/sound.steps", laid_flyover_sound_steps)] }
def SoundSealedSaid : Prop := soundSealedRow.holds Tryz.pinned (OpenSpec.ofChange soundSealedSpec)

/-- ITS FALSE NEIGHBOUR: 'it returns false'. Refute it at one input. -/
def soundSealedWrong : ChangeSpec := { name := "soundSealed", fn := fun _ => fun
  | [d1, d2, d3] => { results := [.lit (.bool false)], args := [d1, d2, d3] }
  | _ => none }
def SoundSealedWrongFalsely : Prop := soundSealedRow.holds Tryz.pinned (OpenSpec.ofChange soundSealedWrong)

/-- 'flyoverlaw01.SoundBack': WHATEVER THE INPUT: true; the input reads as it did. -/
def soundBackSpec : ChangeSpec := { name := "soundBack", fn := fun _ => fun
  | [d1, d2, d3] => { results := [.lit (.bool true)], args := [d1, d2, d3] }
  | _ => none }
def soundBackRow : OpenClaim := { program := "ytoipafnlcchmbaagreatdoor", sum := "c7d5286f44c32f70ed27087d1bbae8fbb580aeb0939f7f0ee3ee2872ffcc03aa", func := "flyover/flyoverlaw01.SoundBack", spec := "soundBack", inPlace := ["math.Float64bits", "math.Float64frombits", "math.archTrunc", "math.Float32bits", "math.Float32frombits", "internal/abi.NoEscape", "internal/bytealg.MakeNoZero", "internal/bytealg.CountString", "internal/bytealg.IndexByteString", "internal/bytealg.IndexString"], unfollowed := true, recurses := true, named := ["flyover/sound.steps", "internal/strconv.uint64pow10", "math/bits.deBruijn32tab", "math/bits.deBruijn64tab", "unicode/utf8.first", "unicode/utf8.acceptRanges", "internal/bytealg.MaxLen"], apart := false, laid := [("math/bits.deBruijn32tab", laid_math_bits_deBruijn32tab), ("math/bits.deBruijn64tab", laid_math_bits_deBruijn64tab), ("internal/strconv.uint64pow10", laid_internal_strconv_uint64pow10), ("unicode/utf8.acceptRanges", laid_unicode_utf8_acceptRanges), ("flyover/sound.steps", laid_flyover_sound_steps), ("unicode/utf8.first", laid_unicode_utf8_first)] }
def SoundBackSaid : Prop := soundBackRow.holds Tryz.pinned (OpenSpec.ofChange soundBackSpec)

/-- ITS FALSE NEIGHBOUR: 'it returns false'. Refute it at one input. -/
def soundBackWrong : ChangeSpec := { name := "soundBack", fn := fun _ => fun
  | [d1, d2, d3] => { results := [.lit (.bool false)], args := [d1, d2, d3] }
  | _ => none }
def SoundBackWrongFalsely : Prop := soundBackRow.holds Tryz.pinned (OpenSpec.ofChange soundBackWrong)

/- THE SECOND FORM. 'bulk': how many values and letters a reading holds, each counted each time it is reached (what is shared counts as often as it is met; a slice's spare places count too). A statement '..UptoSaid' is the law's where the arguments, and the package variables that the reading takes, are together of bulk at most 1048576: NARROWER than '..Said'. Prove '..Said' where nothing that the law and all that it calls make is longer than what came in: it says more and counts as full. Else prove '..UptoSaid'. A law counts once. -/
mutual
def uptoBulk {H : Type} : DataW H → Nat
  | .lit (.string bytes) => bytes.length + 1
  | .lit _ => 1
  | .nil => 1
  | .ptr d => uptoBulk d + 1
  | .slice elems spare => uptoBulkAll elems + uptoBulkAll spare + 1
  | .agg parts => uptoBulkAll parts + 1
  | .iface _ d => uptoBulk d + 1
  | .map entries => uptoBulkEntries entries + 1
  | .held _ => 1
def uptoBulkAll {H : Type} : List (DataW H) → Nat
  | [] => 0
  | d :: r => uptoBulk d + uptoBulkAll r
def uptoBulkEntries {H : Type} : List (Lit × DataW H) → Nat
  | [] => 0
  | x :: r => uptoBulkEntry x + uptoBulkEntries r
def uptoBulkEntry {H : Type} : Lit × DataW H → Nat
  | (.string bytes, d) => bytes.length + uptoBulk d + 1
  | (_, d) => uptoBulk d + 1
 end
def uptoSmall : (H : Type) → List (DataW H) → Bool := fun _ ds => decide (uptoBulkAll ds ≤ 1048576)
def OpenSpec.upto (s : _root_.Go.ChangeSpec) : _root_.Go.OpenSpec := { _root_.Go.OpenSpec.ofChange s with cond := some uptoSmall }

/-- 'flyoverlaw01.SoundNumbers', WHERE WHAT IT READS IS OF BULK AT MOST 1048576: true; the input reads as it did. -/
def soundNumbersUptoRow : OpenClaim := { program := "ytoipafnlcchmbaagreatdoor", sum := "c7d5286f44c32f70ed27087d1bbae8fbb580aeb0939f7f0ee3ee2872ffcc03aa", func := "flyover/flyoverlaw01.SoundNumbers", spec := "soundNumbers", inPlace := ["math.Float64bits", "math.Float64frombits", "math.archTrunc", "math.Float32bits", "math.Float32frombits", "internal/abi.NoEscape", "internal/bytealg.MakeNoZero"], unfollowed := true, recurses := true, named := ["flyover/sound.steps", "internal/strconv.uint64pow10", "math/bits.deBruijn32tab", "math/bits.deBruijn64tab"], apart := false, laid := [("math/bits.deBruijn32tab", laid_math_bits_deBruijn32tab), ("math/bits.deBruijn64tab", laid_math_bits_deBruijn64tab), ("internal/strconv.uint64pow10", laid_internal_strconv_uint64pow10), ("flyover/sound.steps", laid_flyover_sound_steps)], narrowed := true }
def SoundNumbersUptoSaid : Prop := soundNumbersUptoRow.holds Tryz.pinned (OpenSpec.upto soundNumbersSpec)

/-- 'flyoverlaw01.SoundSamples', WHERE WHAT IT READS IS OF BULK AT MOST 1048576: true; the input reads as it did. -/
def soundSamplesUptoRow : OpenClaim := { program := "ytoipafnlcchmbaagreatdoor", sum := "c7d5286f44c32f70ed27087d1bbae8fbb580aeb0939f7f0ee3ee2872ffcc03aa", func := "flyover/flyoverlaw01.SoundSamples", spec := "soundSamples", inPlace := ["math.Float64bits", "math.Float64frombits", "math.archTrunc", "math.Float32bits", "math.Float32frombits", "internal/abi.NoEscape", "internal/bytealg.MakeNoZero"], unfollowed := true, recurses := true, named := ["flyover/sound.steps", "internal/strconv.uint64pow10", "math/bits.deBruijn32tab", "math/bits.deBruijn64tab"], apart := false, laid := [("math/bits.deBruijn32tab", laid_math_bits_deBruijn32tab), ("math/bits.deBruijn64tab", laid_math_bits_deBruijn64tab), ("internal/strconv.uint64pow10", laid_internal_strconv_uint64pow10), ("flyover/sound.steps", laid_flyover_sound_steps)], narrowed := true }
def SoundSamplesUptoSaid : Prop := soundSamplesUptoRow.holds Tryz.pinned (OpenSpec.upto soundSamplesSpec)

/-- 'flyoverlaw01.SoundLevels', WHERE WHAT IT READS IS OF BULK AT MOST 1048576: true; the input reads as it did. -/
def soundLevelsUptoRow : OpenClaim := { program := "ytoipafnlcchmbaagreatdoor", sum := "c7d5286f44c32f70ed27087d1bbae8fbb580aeb0939f7f0ee3ee2872ffcc03aa", func := "flyover/flyoverlaw01.SoundLevels", spec := "soundLevels", inPlace := ["math.Float64bits", "math.Float64frombits", "math.archTrunc", "math.Float32bits", "math.Float32frombits", "internal/abi.NoEscape", "internal/bytealg.MakeNoZero"], unfollowed := true, recurses := true, named := ["flyover/sound.steps", "internal/strconv.uint64pow10", "math/bits.deBruijn32tab", "math/bits.deBruijn64tab"], apart := false, laid := [("math/bits.deBruijn32tab", laid_math_bits_deBruijn32tab), ("math/bits.deBruijn64tab", laid_math_bits_deBruijn64tab), ("internal/strconv.uint64pow10", laid_internal_strconv_uint64pow10), ("flyover/sound.steps", laid_flyover_sound_steps)], narrowed := true }
def SoundLevelsUptoSaid : Prop := soundLevelsUptoRow.holds Tryz.pinned (OpenSpec.upto soundLevelsSpec)

/-- 'flyoverlaw01.SoundSums', WHERE WHAT IT READS IS OF BULK AT MOST 1048576: true; the input reads as it did. -/
def soundSumsUptoRow : OpenClaim := { program := "ytoipafnlcchmbaagreatdoor", sum := "c7d5286f44c32f70ed27087d1bbae8fbb580aeb0939f7f0ee3ee2872ffcc03aa", func := "flyover/flyoverlaw01.SoundSums", spec := "soundSums", inPlace := ["math.Float64bits", "math.Float64frombits", "math.archTrunc", "math.Float32bits", "math.Float32frombits", "internal/abi.NoEscape", "internal/bytealg.MakeNoZero"], unfollowed := true, recurses := true, named := ["flyover/sound.steps", "internal/strconv.uint64pow10", "math/bits.deBruijn32tab", "math/bits.deBruijn64tab"], apart := false, laid := [("math/bits.deBruijn32tab", laid_math_bits_deBruijn32tab), ("math/bits.deBruijn64tab", laid_math_bits_deBruijn64tab), ("internal/strconv.uint64pow10", laid_internal_strconv_uint64pow10), ("flyover/sound.steps", laid_flyover_sound_steps)], narrowed := true }
def SoundSumsUptoSaid : Prop := soundSumsUptoRow.holds Tryz.pinned (OpenSpec.upto soundSumsSpec)

/-- 'flyoverlaw01.SoundHours', WHERE WHAT IT READS IS OF BULK AT MOST 1048576: true; the input reads as it did. -/
def soundHoursUptoRow : OpenClaim := { program := "ytoipafnlcchmbaagreatdoor", sum := "c7d5286f44c32f70ed27087d1bbae8fbb580aeb0939f7f0ee3ee2872ffcc03aa", func := "flyover/flyoverlaw01.SoundHours", spec := "soundHours", inPlace := ["math.Float64bits", "math.Float64frombits", "math.archTrunc", "math.Float32bits", "math.Float32frombits", "internal/abi.NoEscape", "internal/bytealg.MakeNoZero"], unfollowed := true, recurses := true, named := ["flyover/sound.steps", "internal/strconv.uint64pow10", "math/bits.deBruijn32tab", "math/bits.deBruijn64tab"], apart := false, laid := [("math/bits.deBruijn32tab", laid_math_bits_deBruijn32tab), ("math/bits.deBruijn64tab", laid_math_bits_deBruijn64tab), ("internal/strconv.uint64pow10", laid_internal_strconv_uint64pow10), ("flyover/sound.steps", laid_flyover_sound_steps)], narrowed := true }
def SoundHoursUptoSaid : Prop := soundHoursUptoRow.holds Tryz.pinned (OpenSpec.upto soundHoursSpec)

/-- 'flyoverlaw01.SoundLosses', WHERE WHAT IT READS IS OF BULK AT MOST 1048576: true; the input reads as it did. -/
def soundLossesUptoRow : OpenClaim := { program := "ytoipafnlcchmbaagreatdoor", sum := "c7d5286f44c32f70ed27087d1bbae8fbb580aeb0939f7f0ee3ee2872ffcc03aa", func := "flyover/flyoverlaw01.SoundLosses", spec := "soundLosses", inPlace := ["math.Float64bits", "math.Float64frombits", "math.archTrunc", "math.Float32bits", "math.Float32frombits", "internal/abi.NoEscape", "internal/bytealg.MakeNoZero"], unfollowed := true, recurses := true, named := ["flyover/sound.steps", "internal/strconv.uint64pow10", "math/bits.deBruijn32tab", "math/bits.deBruijn64tab"], apart := false, laid := [("math/bits.deBruijn32tab", laid_math_bits_deBruijn32tab), ("math/bits.deBruijn64tab", laid_math_bits_deBruijn64tab), ("internal/strconv.uint64pow10", laid_internal_strconv_uint64pow10), ("flyover/sound.steps", laid_flyover_sound_steps)], narrowed := true }
def SoundLossesUptoSaid : Prop := soundLossesUptoRow.holds Tryz.pinned (OpenSpec.upto soundLossesSpec)

/-- 'flyoverlaw01.SoundPackets', WHERE WHAT IT READS IS OF BULK AT MOST 1048576: true; the input reads as it did. -/
def soundPacketsUptoRow : OpenClaim := { program := "ytoipafnlcchmbaagreatdoor", sum := "c7d5286f44c32f70ed27087d1bbae8fbb580aeb0939f7f0ee3ee2872ffcc03aa", func := "flyover/flyoverlaw01.SoundPackets", spec := "soundPackets", inPlace := ["math.Float64bits", "math.Float64frombits", "math.archTrunc", "math.Float32bits", "math.Float32frombits", "internal/abi.NoEscape", "internal/bytealg.MakeNoZero"], unfollowed := true, recurses := true, named := ["flyover/sound.steps", "internal/strconv.uint64pow10", "math/bits.deBruijn32tab", "math/bits.deBruijn64tab"], apart := false, laid := [("math/bits.deBruijn32tab", laid_math_bits_deBruijn32tab), ("math/bits.deBruijn64tab", laid_math_bits_deBruijn64tab), ("internal/strconv.uint64pow10", laid_internal_strconv_uint64pow10), ("flyover/sound.steps", laid_flyover_sound_steps)], narrowed := true }
def SoundPacketsUptoSaid : Prop := soundPacketsUptoRow.holds Tryz.pinned (OpenSpec.upto soundPacketsSpec)

/-- 'flyoverlaw01.SoundReceives', WHERE WHAT IT READS IS OF BULK AT MOST 1048576: true; the input reads as it did. -/
def soundReceivesUptoRow : OpenClaim := { program := "ytoipafnlcchmbaagreatdoor", sum := "c7d5286f44c32f70ed27087d1bbae8fbb580aeb0939f7f0ee3ee2872ffcc03aa", func := "flyover/flyoverlaw01.SoundReceives", spec := "soundReceives", inPlace := ["math.Float64bits", "math.Float64frombits", "math.archTrunc", "math.Float32bits", "math.Float32frombits", "internal/abi.NoEscape", "internal/bytealg.MakeNoZero"], unfollowed := true, recurses := true, named := ["flyover/sound.steps", "internal/strconv.uint64pow10", "math/bits.deBruijn32tab", "math/bits.deBruijn64tab"], apart := false, laid := [("math/bits.deBruijn32tab", laid_math_bits_deBruijn32tab), ("math/bits.deBruijn64tab", laid_math_bits_deBruijn64tab), ("internal/strconv.uint64pow10", laid_internal_strconv_uint64pow10), ("flyover/sound.steps", laid_flyover_sound_steps)], narrowed := true }
def SoundReceivesUptoSaid : Prop := soundReceivesUptoRow.holds Tryz.pinned (OpenSpec.upto soundReceivesSpec)

/-- 'flyoverlaw01.SoundStreams', WHERE WHAT IT READS IS OF BULK AT MOST 1048576: true; the input reads as it did. -/
def soundStreamsUptoRow : OpenClaim := { program := "ytoipafnlcchmbaagreatdoor", sum := "c7d5286f44c32f70ed27087d1bbae8fbb580aeb0939f7f0ee3ee2872ffcc03aa", func := "flyover/flyoverlaw01.SoundStreams", spec := "soundStreams", inPlace := ["math.Float64bits", "math.Float64frombits", "math.archTrunc", "math.Float32bits", "math.Float32frombits", "internal/abi.NoEscape", "internal/bytealg.MakeNoZero"], unfollowed := true, recurses := true, named := ["flyover/sound.steps", "internal/strconv.uint64pow10", "math/bits.deBruijn32tab", "math/bits.deBruijn64tab"], apart := false, laid := [("math/bits.deBruijn32tab", laid_math_bits_deBruijn32tab), ("math/bits.deBruijn64tab", laid_math_bits_deBruijn64tab), ("internal/strconv.uint64pow10", laid_internal_strconv_uint64pow10), ("flyover/sound.steps", laid_flyover_sound_steps)], narrowed := true }
def SoundStreamsUptoSaid : Prop := soundStreamsUptoRow.holds Tryz.pinned (OpenSpec.upto soundStreamsSpec)

/-- 'flyoverlaw01.SoundStrings', WHERE WHAT IT READS IS OF BULK AT MOST 1048576: true; the input reads as it did. -/
def soundStringsUptoRow : OpenClaim := { program := "ytoipafnlcchmbaagreatdoor", sum := "c7d5286f44c32f70ed27087d1bbae8fbb580aeb0939f7f0ee3ee2872ffcc03aa", func := "flyover/flyoverlaw01.SoundStrings", spec := "soundStrings", inPlace := ["math.Float64bits", "math.Float64frombits", "math.archTrunc", "math.Float32bits", "math.Float32frombits", "internal/abi.NoEscape", "internal/bytealg.MakeNoZero", "internal/bytealg.CountString", "internal/bytealg.IndexByteString", "internal/bytealg.IndexString"], unfollowed := true, recurses := true, named := ["flyover/sound.steps", "internal/strconv.uint64pow10", "math/bits.deBruijn32tab", "math/bits.deBruijn64tab", "unicode/utf8.first", "unicode/utf8.acceptRanges", "internal/bytealg.MaxLen"], apart := false, laid := [("math/bits.deBruijn32tab", laid_math_bits_deBruijn32tab), ("math/bits.deBruijn64tab", laid_math_bits_deBruijn64tab), ("internal/strconv.uint64pow10", laid_internal_strconv_uint64pow10), ("unicode/utf8.acceptRanges", laid_unicode_utf8_acceptRanges), ("flyover/sound.steps", laid_flyover_sound_steps), ("unicode/utf8.first", laid_unicode_utf8_first)], narrowed := true }
def SoundStringsUptoSaid : Prop := soundStringsUptoRow.holds Tryz.pinned (OpenSpec.upto soundStringsSpec)

/-- 'flyoverlaw01.SoundAdds', WHERE WHAT IT READS IS OF BULK AT MOST 1048576: true; the input reads as it did. -/
def soundAddsUptoRow : OpenClaim := { program := "ytoipafnlcchmbaagreatdoor", sum := "c7d5286f44c32f70ed27087d1bbae8fbb580aeb0939f7f0ee3ee2872ffcc03aa", func := "flyover/flyoverlaw01.SoundAdds", spec := "soundAdds", inPlace := ["math.Float64bits", "math.Float64frombits", "math.archTrunc", "math.Float32bits", "math.Float32frombits", "internal/abi.NoEscape", "internal/bytealg.MakeNoZero"], unfollowed := true, recurses := true, named := ["flyover/sound.steps", "internal/strconv.uint64pow10", "math/bits.deBruijn32tab", "math/bits.deBruijn64tab"], apart := false, laid := [("math/bits.deBruijn32tab", laid_math_bits_deBruijn32tab), ("math/bits.deBruijn64tab", laid_math_bits_deBruijn64tab), ("internal/strconv.uint64pow10", laid_internal_strconv_uint64pow10), ("flyover/sound.steps", laid_flyover_sound_steps)], narrowed := true }
def SoundAddsUptoSaid : Prop := soundAddsUptoRow.holds Tryz.pinned (OpenSpec.upto soundAddsSpec)

/-- 'flyoverlaw01.SoundTurns', WHERE WHAT IT READS IS OF BULK AT MOST 1048576: true; the input reads as it did. -/
def soundTurnsUptoRow : OpenClaim := { program := "ytoipafnlcchmbaagreatdoor", sum := "c7d5286f44c32f70ed27087d1bbae8fbb580aeb0939f7f0ee3ee2872ffcc03aa", func := "flyover/flyoverlaw01.SoundTurns", spec := "soundTurns", inPlace := ["math.Float64bits", "math.Float64frombits", "math.archTrunc", "math.Float32bits", "math.Float32frombits", "internal/abi.NoEscape", "internal/bytealg.MakeNoZero"], unfollowed := true, recurses := true, named := ["flyover/sound.steps", "internal/strconv.uint64pow10", "math/bits.deBruijn32tab", "math/bits.deBruijn64tab"], apart := false, laid := [("math/bits.deBruijn32tab", laid_math_bits_deBruijn32tab), ("math/bits.deBruijn64tab", laid_math_bits_deBruijn64tab), ("internal/strconv.uint64pow10", laid_internal_strconv_uint64pow10), ("flyover/sound.steps", laid_flyover_sound_steps)], narrowed := true }
def SoundTurnsUptoSaid : Prop := soundTurnsUptoRow.holds Tryz.pinned (OpenSpec.upto soundTurnsSpec)

/-- 'flyoverlaw01.SoundSealed', WHERE WHAT IT READS IS OF BULK AT MOST 1048576: true; the input reads as it did. -/
def soundSealedUptoRow : OpenClaim := { program := "ytoipafnlcchmbaagreatdoor", sum := "c7d5286f44c32f70ed27087d1bbae8fbb580aeb0939f7f0ee3ee2872ffcc03aa", func := "flyover/flyoverlaw01.SoundSealed", spec := "soundSealed", inPlace := ["math.Float64bits", "math.Float64frombits", "math.archTrunc", "math.Float32bits", "math.Float32frombits", "internal/abi.NoEscape", "internal/bytealg.MakeNoZero"], unfollowed := true, recurses := true, named := ["flyover/sound.steps", "internal/strconv.uint64pow10", "math/bits.deBruijn32tab", "math/bits.deBruijn64tab"], apart := false, laid := [("math/bits.deBruijn32tab", laid_math_bits_deBruijn32tab), ("math/bits.deBruijn64tab", laid_math_bits_deBruijn64tab), ("internal/strconv.uint64pow10", laid_internal_strconv_uint64pow10), ("flyover/sound.steps", laid_flyover_sound_steps)], narrowed := true }
def SoundSealedUptoSaid : Prop := soundSealedUptoRow.holds Tryz.pinned (OpenSpec.upto soundSealedSpec)

/-- 'flyoverlaw01.SoundBack', WHERE WHAT IT READS IS OF BULK AT MOST 1048576: true; the input reads as it did. -/
def soundBackUptoRow : OpenClaim := { program := "ytoipafnlcchmbaagreatdoor", sum := "c7d5286f44c32f70ed27087d1bbae8fbb580aeb0939f7f0ee3ee2872ffcc03aa", func := "flyover/flyoverlaw01.SoundBack", spec := "soundBack", inPlace := ["math.Float64bits", "math.Float64frombits", "math.archTrunc", "math.Float32bits", "math.Float32frombits", "internal/abi.NoEscape", "internal/bytealg.MakeNoZero", "internal/bytealg.CountString", "internal/bytealg.IndexByteString", "internal/bytealg.IndexString"], unfollowed := true, recurses := true, named := ["flyover/sound.steps", "internal/strconv.uint64pow10", "math/bits.deBruijn32tab", "math/bits.deBruijn64tab", "unicode/utf8.first", "unicode/utf8.acceptRanges", "internal/bytealg.MaxLen"], apart := false, laid := [("math/bits.deBruijn32tab", laid_math_bits_deBruijn32tab), ("math/bits.deBruijn64tab", laid_math_bits_deBruijn64tab), ("internal/strconv.uint64pow10", laid_internal_strconv_uint64pow10), ("unicode/utf8.acceptRanges", laid_unicode_utf8_acceptRanges), ("flyover/sound.steps", laid_flyover_sound_steps), ("unicode/utf8.first", laid_unicode_utf8_first)], narrowed := true }
def SoundBackUptoSaid : Prop := soundBackUptoRow.holds Tryz.pinned (OpenSpec.upto soundBackSpec)

end Rows
end Go.Proofs.YtoipafnlcchmbaaGreatDoor
