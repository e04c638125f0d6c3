/-
  No cell of these rows narrows 'for every input' (looked for: loops, veiled, ifaces, maps, wideKeys, modest, calm, conditions, laid).
  DERIVED. THE GIVEN ROWS OF THIS SEAT. 15 by the template 'for every input the law returns true; each argument reads behind the call as it read before'; 0 by the template 'total and deterministic' (their statements: YtmncdpiojhgcdaaTotals.lean).
  GIVEN WITH THE SEED: the statements are not yours to turn. If you find one false, say at which input.
  Laid BY PROGRAM, IN A SANDBOX (cutbox-rows.mjs): the forced cells as the released guide's own fill.sh prints them over the translation 44da2290b7254716… (all of the seat's roots in one cut). By AI agents, Wed Nov 11 2026. No macro, syntax, notation, axiom, sorry.
-/
import Derived.Test.YtmncdpiojhgcdaaChecked
import GoSem.Claim
import GoSem.ClaimJoined
import GoSem.ClaimMapViews
import Derived.JoinedTies
import Derived.KernelRfl
namespace Go.Proofs.Ytmncdpiojhgcdaa
/- THE CELL 'sum', in the pinned program and in every row, IS THE sha256 OF THE DUMP (.gsa) THAT YtmncdpiojhgcdaaProg.lean LOADS. Nothing in Lean hashes anything: it is a label: what it is worth is what the hold of that sum in a sandbox is worth. -/
noncomputable def Try.pinned : Pinned := { name := "ytmncdpiojhgcdaa", sum := "44da2290b72547164be37626ec1a16e47c1c08a164a6f0c4182fb056d2e1ab5e", checked := Try.checked }
namespace Rows
def none {H : Type} : Left H := { results := [], args := [] }

/-- 'laws.FnExactLeastLines': WHATEVER THE INPUT: true; the input reads as it did. -/
def fnExactLeastLinesSpec : ChangeSpec := { name := "fnExactLeastLines", fn := fun _ => fun
  | [d1, d2, d3] => { results := [.lit (.bool true)], args := [d1, d2, d3] }
  | _ => none }
def fnExactLeastLinesRow : OpenClaim := { program := "ytmncdpiojhgcdaa", sum := "44da2290b72547164be37626ec1a16e47c1c08a164a6f0c4182fb056d2e1ab5e", func := "loop.example/typesetting/laws.FnExactLeastLines", spec := "fnExactLeastLines", unfollowed := true, recurses := true, apart := false }
def FnExactLeastLinesSaid : Prop := fnExactLeastLinesRow.holds Try.pinned (OpenSpec.ofChange fnExactLeastLinesSpec)

/-- ITS FALSE NEIGHBOUR: 'it returns false'. Refute it at one input. -/
def fnExactLeastLinesWrong : ChangeSpec := { name := "fnExactLeastLines", fn := fun _ => fun
  | [d1, d2, d3] => { results := [.lit (.bool false)], args := [d1, d2, d3] }
  | _ => none }
def FnExactLeastLinesWrongFalsely : Prop := fnExactLeastLinesRow.holds Try.pinned (OpenSpec.ofChange fnExactLeastLinesWrong)

/-- 'laws.FnLeastLines': WHATEVER THE INPUT: true; the input reads as it did. -/
def fnLeastLinesSpec : ChangeSpec := { name := "fnLeastLines", fn := fun _ => fun
  | [d] => { results := [.lit (.bool true)], args := [d] }
  | _ => none }
def fnLeastLinesRow : OpenClaim := { program := "ytmncdpiojhgcdaa", sum := "44da2290b72547164be37626ec1a16e47c1c08a164a6f0c4182fb056d2e1ab5e", func := "loop.example/typesetting/laws.FnLeastLines", spec := "fnLeastLines", unfollowed := true, recurses := true, apart := false }
def FnLeastLinesSaid : Prop := fnLeastLinesRow.holds Try.pinned (OpenSpec.ofChange fnLeastLinesSpec)

/-- ITS FALSE NEIGHBOUR: 'it returns false'. Refute it at one input. -/
def fnLeastLinesWrong : ChangeSpec := { name := "fnLeastLines", fn := fun _ => fun
  | [d] => { results := [.lit (.bool false)], args := [d] }
  | _ => none }
def FnLeastLinesWrongFalsely : Prop := fnLeastLinesRow.holds Try.pinned (OpenSpec.ofChange fnLeastLinesWrong)

/-- 'laws.FnLeastForced': WHATEVER THE INPUT: true; the input reads as it did. -/
def fnLeastForcedSpec : ChangeSpec := { name := "fnLeastForced", fn := fun _ => fun
  | [d] => { results := [.lit (.bool true)], args := [d] }
  | _ => none }
def fnLeastForcedRow : OpenClaim := { program := "ytmncdpiojhgcdaa", sum := "44da2290b72547164be37626ec1a16e47c1c08a164a6f0c4182fb056d2e1ab5e", func := "loop.example/typesetting/laws.FnLeastForced", spec := "fnLeastForced", unfollowed := true, recurses := true, apart := false }
def FnLeastForcedSaid : Prop := fnLeastForcedRow.holds Try.pinned (OpenSpec.ofChange fnLeastForcedSpec)

/-- ITS FALSE NEIGHBOUR: 'it returns false'. Refute it at one input. -/
def fnLeastForcedWrong : ChangeSpec := { name := "fnLeastForced", fn := fun _ => fun
  | [d] => { results := [.lit (.bool false)], args := [d] }
  | _ => none }
def FnLeastForcedWrongFalsely : Prop := fnLeastForcedRow.holds Try.pinned (OpenSpec.ofChange fnLeastForcedWrong)

/-- 'laws.FnLeastWide': WHATEVER THE INPUT: true; the input reads as it did. -/
def fnLeastWideSpec : ChangeSpec := { name := "fnLeastWide", fn := fun _ => fun
  | [d] => { results := [.lit (.bool true)], args := [d] }
  | _ => none }
def fnLeastWideRow : OpenClaim := { program := "ytmncdpiojhgcdaa", sum := "44da2290b72547164be37626ec1a16e47c1c08a164a6f0c4182fb056d2e1ab5e", func := "loop.example/typesetting/laws.FnLeastWide", spec := "fnLeastWide", unfollowed := true, recurses := true, apart := false }
def FnLeastWideSaid : Prop := fnLeastWideRow.holds Try.pinned (OpenSpec.ofChange fnLeastWideSpec)

/-- ITS FALSE NEIGHBOUR: 'it returns false'. Refute it at one input. -/
def fnLeastWideWrong : ChangeSpec := { name := "fnLeastWide", fn := fun _ => fun
  | [d] => { results := [.lit (.bool false)], args := [d] }
  | _ => none }
def FnLeastWideWrongFalsely : Prop := fnLeastWideRow.holds Try.pinned (OpenSpec.ofChange fnLeastWideWrong)

/-- 'laws.FnExactCheckShape': WHATEVER THE INPUT: true; the input reads as it did. -/
def fnExactCheckShapeSpec : ChangeSpec := { name := "fnExactCheckShape", fn := fun _ => fun
  | [d1, d2, d3, d4] => { results := [.lit (.bool true)], args := [d1, d2, d3, d4] }
  | _ => none }
def fnExactCheckShapeRow : OpenClaim := { program := "ytmncdpiojhgcdaa", sum := "44da2290b72547164be37626ec1a16e47c1c08a164a6f0c4182fb056d2e1ab5e", func := "loop.example/typesetting/laws.FnExactCheckShape", spec := "fnExactCheckShape", unfollowed := true, recurses := true, apart := false }
def FnExactCheckShapeSaid : Prop := fnExactCheckShapeRow.holds Try.pinned (OpenSpec.ofChange fnExactCheckShapeSpec)

/-- ITS FALSE NEIGHBOUR: 'it returns false'. Refute it at one input. -/
def fnExactCheckShapeWrong : ChangeSpec := { name := "fnExactCheckShape", fn := fun _ => fun
  | [d1, d2, d3, d4] => { results := [.lit (.bool false)], args := [d1, d2, d3, d4] }
  | _ => none }
def FnExactCheckShapeWrongFalsely : Prop := fnExactCheckShapeRow.holds Try.pinned (OpenSpec.ofChange fnExactCheckShapeWrong)

/-- 'laws.FnCheckShape': WHATEVER THE INPUT: true; the input reads as it did. -/
def fnCheckShapeSpec : ChangeSpec := { name := "fnCheckShape", fn := fun _ => fun
  | [d] => { results := [.lit (.bool true)], args := [d] }
  | _ => none }
def fnCheckShapeRow : OpenClaim := { program := "ytmncdpiojhgcdaa", sum := "44da2290b72547164be37626ec1a16e47c1c08a164a6f0c4182fb056d2e1ab5e", func := "loop.example/typesetting/laws.FnCheckShape", spec := "fnCheckShape", unfollowed := true, recurses := true, apart := false }
def FnCheckShapeSaid : Prop := fnCheckShapeRow.holds Try.pinned (OpenSpec.ofChange fnCheckShapeSpec)

/-- ITS FALSE NEIGHBOUR: 'it returns false'. Refute it at one input. -/
def fnCheckShapeWrong : ChangeSpec := { name := "fnCheckShape", fn := fun _ => fun
  | [d] => { results := [.lit (.bool false)], args := [d] }
  | _ => none }
def FnCheckShapeWrongFalsely : Prop := fnCheckShapeRow.holds Try.pinned (OpenSpec.ofChange fnCheckShapeWrong)

/-- 'laws.FnExactSetParagraph': WHATEVER THE INPUT: true; the input reads as it did. -/
def fnExactSetParagraphSpec : ChangeSpec := { name := "fnExactSetParagraph", fn := fun _ => fun
  | [d1, d2, d3] => { results := [.lit (.bool true)], args := [d1, d2, d3] }
  | _ => none }
def fnExactSetParagraphRow : OpenClaim := { program := "ytmncdpiojhgcdaa", sum := "44da2290b72547164be37626ec1a16e47c1c08a164a6f0c4182fb056d2e1ab5e", func := "loop.example/typesetting/laws.FnExactSetParagraph", spec := "fnExactSetParagraph", unfollowed := true, recurses := true, apart := false }
def FnExactSetParagraphSaid : Prop := fnExactSetParagraphRow.holds Try.pinned (OpenSpec.ofChange fnExactSetParagraphSpec)

/-- ITS FALSE NEIGHBOUR: 'it returns false'. Refute it at one input. -/
def fnExactSetParagraphWrong : ChangeSpec := { name := "fnExactSetParagraph", fn := fun _ => fun
  | [d1, d2, d3] => { results := [.lit (.bool false)], args := [d1, d2, d3] }
  | _ => none }
def FnExactSetParagraphWrongFalsely : Prop := fnExactSetParagraphRow.holds Try.pinned (OpenSpec.ofChange fnExactSetParagraphWrong)

/-- 'laws.FnSetParagraph': WHATEVER THE INPUT: true; the input reads as it did. -/
def fnSetParagraphSpec : ChangeSpec := { name := "fnSetParagraph", fn := fun _ => fun
  | [d] => { results := [.lit (.bool true)], args := [d] }
  | _ => none }
def fnSetParagraphRow : OpenClaim := { program := "ytmncdpiojhgcdaa", sum := "44da2290b72547164be37626ec1a16e47c1c08a164a6f0c4182fb056d2e1ab5e", func := "loop.example/typesetting/laws.FnSetParagraph", spec := "fnSetParagraph", unfollowed := true, recurses := true, apart := false }
def FnSetParagraphSaid : Prop := fnSetParagraphRow.holds Try.pinned (OpenSpec.ofChange fnSetParagraphSpec)

/-- ITS FALSE NEIGHBOUR: 'it returns false'. Refute it at one input. -/
def fnSetParagraphWrong : ChangeSpec := { name := "fnSetParagraph", fn := fun _ => fun
  | [d] => { results := [.lit (.bool false)], args := [d] }
  | _ => none }
def FnSetParagraphWrongFalsely : Prop := fnSetParagraphRow.holds Try.pinned (OpenSpec.ofChange fnSetParagraphWrong)

/-- 'laws.FnExactShapeBreaks': WHATEVER THE INPUT: true; the input reads as it did. -/
def fnExactShapeBreaksSpec : ChangeSpec := { name := "fnExactShapeBreaks", fn := fun _ => fun
  | [d1, d2, d3] => { results := [.lit (.bool true)], args := [d1, d2, d3] }
  | _ => none }
def fnExactShapeBreaksRow : OpenClaim := { program := "ytmncdpiojhgcdaa", sum := "44da2290b72547164be37626ec1a16e47c1c08a164a6f0c4182fb056d2e1ab5e", func := "loop.example/typesetting/laws.FnExactShapeBreaks", spec := "fnExactShapeBreaks", unfollowed := true, recurses := true, apart := false }
def FnExactShapeBreaksSaid : Prop := fnExactShapeBreaksRow.holds Try.pinned (OpenSpec.ofChange fnExactShapeBreaksSpec)

/-- ITS FALSE NEIGHBOUR: 'it returns false'. Refute it at one input. -/
def fnExactShapeBreaksWrong : ChangeSpec := { name := "fnExactShapeBreaks", fn := fun _ => fun
  | [d1, d2, d3] => { results := [.lit (.bool false)], args := [d1, d2, d3] }
  | _ => none }
def FnExactShapeBreaksWrongFalsely : Prop := fnExactShapeBreaksRow.holds Try.pinned (OpenSpec.ofChange fnExactShapeBreaksWrong)

/-- 'laws.FnShapeBreaks': WHATEVER THE INPUT: true; the input reads as it did. -/
def fnShapeBreaksSpec : ChangeSpec := { name := "fnShapeBreaks", fn := fun _ => fun
  | [d] => { results := [.lit (.bool true)], args := [d] }
  | _ => none }
def fnShapeBreaksRow : OpenClaim := { program := "ytmncdpiojhgcdaa", sum := "44da2290b72547164be37626ec1a16e47c1c08a164a6f0c4182fb056d2e1ab5e", func := "loop.example/typesetting/laws.FnShapeBreaks", spec := "fnShapeBreaks", unfollowed := true, recurses := true, apart := false }
def FnShapeBreaksSaid : Prop := fnShapeBreaksRow.holds Try.pinned (OpenSpec.ofChange fnShapeBreaksSpec)

/-- ITS FALSE NEIGHBOUR: 'it returns false'. Refute it at one input. -/
def fnShapeBreaksWrong : ChangeSpec := { name := "fnShapeBreaks", fn := fun _ => fun
  | [d] => { results := [.lit (.bool false)], args := [d] }
  | _ => none }
def FnShapeBreaksWrongFalsely : Prop := fnShapeBreaksRow.holds Try.pinned (OpenSpec.ofChange fnShapeBreaksWrong)

/-- 'laws.FnShapeBest': WHATEVER THE INPUT: true; the input reads as it did. -/
def fnShapeBestSpec : ChangeSpec := { name := "fnShapeBest", fn := fun _ => fun
  | [d] => { results := [.lit (.bool true)], args := [d] }
  | _ => none }
def fnShapeBestRow : OpenClaim := { program := "ytmncdpiojhgcdaa", sum := "44da2290b72547164be37626ec1a16e47c1c08a164a6f0c4182fb056d2e1ab5e", func := "loop.example/typesetting/laws.FnShapeBest", spec := "fnShapeBest", unfollowed := true, recurses := true, apart := false }
def FnShapeBestSaid : Prop := fnShapeBestRow.holds Try.pinned (OpenSpec.ofChange fnShapeBestSpec)

/-- ITS FALSE NEIGHBOUR: 'it returns false'. Refute it at one input. -/
def fnShapeBestWrong : ChangeSpec := { name := "fnShapeBest", fn := fun _ => fun
  | [d] => { results := [.lit (.bool false)], args := [d] }
  | _ => none }
def FnShapeBestWrongFalsely : Prop := fnShapeBestRow.holds Try.pinned (OpenSpec.ofChange fnShapeBestWrong)

/-- 'laws.FnShapeConstant': WHATEVER THE INPUT: true; the input reads as it did. -/
def fnShapeConstantSpec : ChangeSpec := { name := "fnShapeConstant", fn := fun _ => fun
  | [d] => { results := [.lit (.bool true)], args := [d] }
  | _ => none }
def fnShapeConstantRow : OpenClaim := { program := "ytmncdpiojhgcdaa", sum := "44da2290b72547164be37626ec1a16e47c1c08a164a6f0c4182fb056d2e1ab5e", func := "loop.example/typesetting/laws.FnShapeConstant", spec := "fnShapeConstant", unfollowed := true, recurses := true, apart := false }
def FnShapeConstantSaid : Prop := fnShapeConstantRow.holds Try.pinned (OpenSpec.ofChange fnShapeConstantSpec)

/-- ITS FALSE NEIGHBOUR: 'it returns false'. Refute it at one input. -/
def fnShapeConstantWrong : ChangeSpec := { name := "fnShapeConstant", fn := fun _ => fun
  | [d] => { results := [.lit (.bool false)], args := [d] }
  | _ => none }
def FnShapeConstantWrongFalsely : Prop := fnShapeConstantRow.holds Try.pinned (OpenSpec.ofChange fnShapeConstantWrong)

/-- 'laws.FnBestTolerance': WHATEVER THE INPUT: true; the input reads as it did. -/
def fnBestToleranceSpec : ChangeSpec := { name := "fnBestTolerance", fn := fun _ => fun
  | [d] => { results := [.lit (.bool true)], args := [d] }
  | _ => none }
def fnBestToleranceRow : OpenClaim := { program := "ytmncdpiojhgcdaa", sum := "44da2290b72547164be37626ec1a16e47c1c08a164a6f0c4182fb056d2e1ab5e", func := "loop.example/typesetting/laws.FnBestTolerance", spec := "fnBestTolerance", unfollowed := true, recurses := true, apart := false }
def FnBestToleranceSaid : Prop := fnBestToleranceRow.holds Try.pinned (OpenSpec.ofChange fnBestToleranceSpec)

/-- ITS FALSE NEIGHBOUR: 'it returns false'. Refute it at one input. -/
def fnBestToleranceWrong : ChangeSpec := { name := "fnBestTolerance", fn := fun _ => fun
  | [d] => { results := [.lit (.bool false)], args := [d] }
  | _ => none }
def FnBestToleranceWrongFalsely : Prop := fnBestToleranceRow.holds Try.pinned (OpenSpec.ofChange fnBestToleranceWrong)

/-- 'laws.FnLineLonger': WHATEVER THE INPUT: true; the input reads as it did. -/
def fnLineLongerSpec : ChangeSpec := { name := "fnLineLonger", fn := fun _ => fun
  | [d] => { results := [.lit (.bool true)], args := [d] }
  | _ => none }
def fnLineLongerRow : OpenClaim := { program := "ytmncdpiojhgcdaa", sum := "44da2290b72547164be37626ec1a16e47c1c08a164a6f0c4182fb056d2e1ab5e", func := "loop.example/typesetting/laws.FnLineLonger", spec := "fnLineLonger", unfollowed := true, recurses := true, apart := false }
def FnLineLongerSaid : Prop := fnLineLongerRow.holds Try.pinned (OpenSpec.ofChange fnLineLongerSpec)

/-- ITS FALSE NEIGHBOUR: 'it returns false'. Refute it at one input. -/
def fnLineLongerWrong : ChangeSpec := { name := "fnLineLonger", fn := fun _ => fun
  | [d] => { results := [.lit (.bool false)], args := [d] }
  | _ => none }
def FnLineLongerWrongFalsely : Prop := fnLineLongerRow.holds Try.pinned (OpenSpec.ofChange fnLineLongerWrong)

/-- 'laws.FnFirstFitLines': WHATEVER THE INPUT: true; the input reads as it did. -/
def fnFirstFitLinesSpec : ChangeSpec := { name := "fnFirstFitLines", fn := fun _ => fun
  | [d] => { results := [.lit (.bool true)], args := [d] }
  | _ => none }
def fnFirstFitLinesRow : OpenClaim := { program := "ytmncdpiojhgcdaa", sum := "44da2290b72547164be37626ec1a16e47c1c08a164a6f0c4182fb056d2e1ab5e", func := "loop.example/typesetting/laws.FnFirstFitLines", spec := "fnFirstFitLines", unfollowed := true, recurses := true, apart := false }
def FnFirstFitLinesSaid : Prop := fnFirstFitLinesRow.holds Try.pinned (OpenSpec.ofChange fnFirstFitLinesSpec)

/-- ITS FALSE NEIGHBOUR: 'it returns false'. Refute it at one input. -/
def fnFirstFitLinesWrong : ChangeSpec := { name := "fnFirstFitLines", fn := fun _ => fun
  | [d] => { results := [.lit (.bool false)], args := [d] }
  | _ => none }
def FnFirstFitLinesWrongFalsely : Prop := fnFirstFitLinesRow.holds Try.pinned (OpenSpec.ofChange fnFirstFitLinesWrong)

/- THE SECOND FORM. 'bulk': how many values and letters a reading holds, each counted each time it is reached (what is shared counts as often as it is met; a slice's spare places count too). A statement '..UptoSaid' is the law's where the arguments, and the package variables that the reading takes, are together of bulk at most 1048576: NARROWER than '..Said'. Prove '..Said' where nothing that the law and all that it calls make is longer than what came in: it says more and counts as full. Else prove '..UptoSaid'. A law counts once. -/
mutual
def uptoBulk {H : Type} : DataW H → Nat
  | .lit (.string bytes) => bytes.length + 1
  | .lit _ => 1
  | .nil => 1
  | .ptr d => uptoBulk d + 1
  | .slice elems spare => uptoBulkAll elems + uptoBulkAll spare + 1
  | .agg parts => uptoBulkAll parts + 1
  | .iface _ d => uptoBulk d + 1
  | .map entries => uptoBulkEntries entries + 1
  | .held _ => 1
def uptoBulkAll {H : Type} : List (DataW H) → Nat
  | [] => 0
  | d :: r => uptoBulk d + uptoBulkAll r
def uptoBulkEntries {H : Type} : List (Lit × DataW H) → Nat
  | [] => 0
  | x :: r => uptoBulkEntry x + uptoBulkEntries r
def uptoBulkEntry {H : Type} : Lit × DataW H → Nat
  | (.string bytes, d) => bytes.length + uptoBulk d + 1
  | (_, d) => uptoBulk d + 1
 end
def uptoSmall : (H : Type) → List (DataW H) → Bool := fun _ ds => decide (uptoBulkAll ds ≤ 1048576)
def OpenSpec.upto (s : _root_.Go.ChangeSpec) : _root_.Go.OpenSpec := { _root_.Go.OpenSpec.ofChange s with cond := some uptoSmall }

/-- 'laws.FnExactLeastLines', WHERE WHAT IT READS IS OF BULK AT MOST 1048576: true; the input reads as it did. -/
def fnExactLeastLinesUptoRow : OpenClaim := { program := "ytmncdpiojhgcdaa", sum := "44da2290b72547164be37626ec1a16e47c1c08a164a6f0c4182fb056d2e1ab5e", func := "loop.example/typesetting/laws.FnExactLeastLines", spec := "fnExactLeastLines", unfollowed := true, recurses := true, apart := false, narrowed := true }
def FnExactLeastLinesUptoSaid : Prop := fnExactLeastLinesUptoRow.holds Try.pinned (OpenSpec.upto fnExactLeastLinesSpec)

/-- 'laws.FnLeastLines', WHERE WHAT IT READS IS OF BULK AT MOST 1048576: true; the input reads as it did. -/
def fnLeastLinesUptoRow : OpenClaim := { program := "ytmncdpiojhgcdaa", sum := "44da2290b72547164be37626ec1a16e47c1c08a164a6f0c4182fb056d2e1ab5e", func := "loop.example/typesetting/laws.FnLeastLines", spec := "fnLeastLines", unfollowed := true, recurses := true, apart := false, narrowed := true }
def FnLeastLinesUptoSaid : Prop := fnLeastLinesUptoRow.holds Try.pinned (OpenSpec.upto fnLeastLinesSpec)

/-- 'laws.FnLeastForced', WHERE WHAT IT READS IS OF BULK AT MOST 1048576: true; the input reads as it did. -/
def fnLeastForcedUptoRow : OpenClaim := { program := "ytmncdpiojhgcdaa", sum := "44da2290b72547164be37626ec1a16e47c1c08a164a6f0c4182fb056d2e1ab5e", func := "loop.example/typesetting/laws.FnLeastForced", spec := "fnLeastForced", unfollowed := true, recurses := true, apart := false, narrowed := true }
def FnLeastForcedUptoSaid : Prop := fnLeastForcedUptoRow.holds Try.pinned (OpenSpec.upto fnLeastForcedSpec)

/-- 'laws.FnLeastWide', WHERE WHAT IT READS IS OF BULK AT MOST 1048576: true; the input reads as it did. -/
def fnLeastWideUptoRow : OpenClaim := { program := "ytmncdpiojhgcdaa", sum := "44da2290b72547164be37626ec1a16e47c1c08a164a6f0c4182fb056d2e1ab5e", func := "loop.example/typesetting/laws.FnLeastWide", spec := "fnLeastWide", unfollowed := true, recurses := true, apart := false, narrowed := true }
def FnLeastWideUptoSaid : Prop := fnLeastWideUptoRow.holds Try.pinned (OpenSpec.upto fnLeastWideSpec)

/-- 'laws.FnExactCheckShape', WHERE WHAT IT READS IS OF BULK AT MOST 1048576: true; the input reads as it did. -/
def fnExactCheckShapeUptoRow : OpenClaim := { program := "ytmncdpiojhgcdaa", sum := "44da2290b72547164be37626ec1a16e47c1c08a164a6f0c4182fb056d2e1ab5e", func := "loop.example/typesetting/laws.FnExactCheckShape", spec := "fnExactCheckShape", unfollowed := true, recurses := true, apart := false, narrowed := true }
def FnExactCheckShapeUptoSaid : Prop := fnExactCheckShapeUptoRow.holds Try.pinned (OpenSpec.upto fnExactCheckShapeSpec)

/-- 'laws.FnCheckShape', WHERE WHAT IT READS IS OF BULK AT MOST 1048576: true; the input reads as it did. -/
def fnCheckShapeUptoRow : OpenClaim := { program := "ytmncdpiojhgcdaa", sum := "44da2290b72547164be37626ec1a16e47c1c08a164a6f0c4182fb056d2e1ab5e", func := "loop.example/typesetting/laws.FnCheckShape", spec := "fnCheckShape", unfollowed := true, recurses := true, apart := false, narrowed := true }
def FnCheckShapeUptoSaid : Prop := fnCheckShapeUptoRow.holds Try.pinned (OpenSpec.upto fnCheckShapeSpec)

/-- 'laws.FnExactSetParagraph', WHERE WHAT IT READS IS OF BULK AT MOST 1048576: true; the input reads as it did. -/
def fnExactSetParagraphUptoRow : OpenClaim := { program := "ytmncdpiojhgcdaa", sum := "44da2290b72547164be37626ec1a16e47c1c08a164a6f0c4182fb056d2e1ab5e", func := "loop.example/typesetting/laws.FnExactSetParagraph", spec := "fnExactSetParagraph", unfollowed := true, recurses := true, apart := false, narrowed := true }
def FnExactSetParagraphUptoSaid : Prop := fnExactSetParagraphUptoRow.holds Try.pinned (OpenSpec.upto fnExactSetParagraphSpec)

/-- 'laws.FnSetParagraph', WHERE WHAT IT READS IS OF BULK AT MOST 1048576: true; the input reads as it did. -/
def fnSetParagraphUptoRow : OpenClaim := { program := "ytmncdpiojhgcdaa", sum := "44da2290b72547164be37626ec1a16e47c1c08a164a6f0c4182fb056d2e1ab5e", func := "loop.example/typesetting/laws.FnSetParagraph", spec := "fnSetParagraph", unfollowed := true, recurses := true, apart := false, narrowed := true }
def FnSetParagraphUptoSaid : Prop := fnSetParagraphUptoRow.holds Try.pinned (OpenSpec.upto fnSetParagraphSpec)

/-- 'laws.FnExactShapeBreaks', WHERE WHAT IT READS IS OF BULK AT MOST 1048576: true; the input reads as it did. -/
def fnExactShapeBreaksUptoRow : OpenClaim := { program := "ytmncdpiojhgcdaa", sum := "44da2290b72547164be37626ec1a16e47c1c08a164a6f0c4182fb056d2e1ab5e", func := "loop.example/typesetting/laws.FnExactShapeBreaks", spec := "fnExactShapeBreaks", unfollowed := true, recurses := true, apart := false, narrowed := true }
def FnExactShapeBreaksUptoSaid : Prop := fnExactShapeBreaksUptoRow.holds Try.pinned (OpenSpec.upto fnExactShapeBreaksSpec)

/-- 'laws.FnShapeBreaks', WHERE WHAT IT READS IS OF BULK AT MOST 1048576: true; the input reads as it did. -/
def fnShapeBreaksUptoRow : OpenClaim := { program := "ytmncdpiojhgcdaa", sum := "44da2290b72547164be37626ec1a16e47c1c08a164a6f0c4182fb056d2e1ab5e", func := "loop.example/typesetting/laws.FnShapeBreaks", spec := "fnShapeBreaks", unfollowed := true, recurses := true, apart := false, narrowed := true }
def FnShapeBreaksUptoSaid : Prop := fnShapeBreaksUptoRow.holds Try.pinned (OpenSpec.upto fnShapeBreaksSpec)

/-- 'laws.FnShapeBest', WHERE WHAT IT READS IS OF BULK AT MOST 1048576: true; the input reads as it did. -/
def fnShapeBestUptoRow : OpenClaim := { program := "ytmncdpiojhgcdaa", sum := "44da2290b72547164be37626ec1a16e47c1c08a164a6f0c4182fb056d2e1ab5e", func := "loop.example/typesetting/laws.FnShapeBest", spec := "fnShapeBest", unfollowed := true, recurses := true, apart := false, narrowed := true }
def FnShapeBestUptoSaid : Prop := fnShapeBestUptoRow.holds Try.pinned (OpenSpec.upto fnShapeBestSpec)

/-- 'laws.FnShapeConstant', WHERE WHAT IT READS IS OF BULK AT MOST 1048576: true; the input reads as it did. -/
def fnShapeConstantUptoRow : OpenClaim := { program := "ytmncdpiojhgcdaa", sum := "44da2290b72547164be37626ec1a16e47c1c08a164a6f0c4182fb056d2e1ab5e", func := "loop.example/typesetting/laws.FnShapeConstant", spec := "fnShapeConstant", unfollowed := true, recurses := true, apart := false, narrowed := true }
def FnShapeConstantUptoSaid : Prop := fnShapeConstantUptoRow.holds Try.pinned (OpenSpec.upto fnShapeConstantSpec)

/-- 'laws.FnBestTolerance', WHERE WHAT IT READS IS OF BULK AT MOST 1048576: true; the input reads as it did. -/
def fnBestToleranceUptoRow : OpenClaim := { program := "ytmncdpiojhgcdaa", sum := "44da2290b72547164be37626ec1a16e47c1c08a164a6f0c4182fb056d2e1ab5e", func := "loop.example/typesetting/laws.FnBestTolerance", spec := "fnBestTolerance", unfollowed := true, recurses := true, apart := false, narrowed := true }
def FnBestToleranceUptoSaid : Prop := fnBestToleranceUptoRow.holds Try.pinned (OpenSpec.upto fnBestToleranceSpec)

/-- 'laws.FnLineLonger', WHERE WHAT IT READS IS OF BULK AT MOST 1048576: true; the input reads as it did. -/
def fnLineLongerUptoRow : OpenClaim := { program := "ytmncdpiojhgcdaa", sum := "44da2290b72547164be37626ec1a16e47c1c08a164a6f0c4182fb056d2e1ab5e", func := "loop.example/typesetting/laws.FnLineLonger", spec := "fnLineLonger", unfollowed := true, recurses := true, apart := false, narrowed := true }
def FnLineLongerUptoSaid : Prop := fnLineLongerUptoRow.holds Try.pinned (OpenSpec.upto fnLineLongerSpec)

/-- 'laws.FnFirstFitLines', WHERE WHAT IT READS IS OF BULK AT MOST 1048576: true; the input reads as it did. -/
def fnFirstFitLinesUptoRow : OpenClaim := { program := "ytmncdpiojhgcdaa", sum := "44da2290b72547164be37626ec1a16e47c1c08a164a6f0c4182fb056d2e1ab5e", func := "loop.example/typesetting/laws.FnFirstFitLines", spec := "fnFirstFitLines", unfollowed := true, recurses := true, apart := false, narrowed := true }
def FnFirstFitLinesUptoSaid : Prop := fnFirstFitLinesUptoRow.holds Try.pinned (OpenSpec.upto fnFirstFitLinesSpec)

end Rows
end Go.Proofs.Ytmncdpiojhgcdaa
