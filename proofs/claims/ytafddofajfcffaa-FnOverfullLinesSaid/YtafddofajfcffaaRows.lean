/-
  No cell of these rows narrows 'for every input' (looked for: loops, veiled, ifaces, maps, wideKeys, modest, calm, conditions, laid).
  DERIVED. THE GIVEN ROWS OF THIS SEAT. 20 by the template 'for every input the law returns true; each argument reads behind the call as it read before'; 0 by the template 'total and deterministic' (their statements: YtafddofajfcffaaTotals.lean).
  GIVEN WITH THE SEED: the statements are not yours to turn. If you find one false, say at which input.
  Laid BY PROGRAM, IN A SANDBOX (cutbox-rows.mjs): the forced cells as the released guide's own fill.sh prints them over the translation 2e400cc7f30377b3… (all of the seat's roots in one cut). By AI agents, Wed Nov 11 2026. No macro, syntax, notation, axiom, sorry.
-/
import Derived.Test.YtafddofajfcffaaChecked
import GoSem.Claim
import GoSem.ClaimJoined
import GoSem.ClaimMapViews
import Derived.JoinedTies
import Derived.KernelRfl
namespace Go.Proofs.Ytafddofajfcffaa
/- THE CELL 'sum', in the pinned program and in every row, IS THE sha256 OF THE DUMP (.gsa) THAT YtafddofajfcffaaProg.lean LOADS. Nothing in Lean hashes anything: it is a label: what it is worth is what the hold of that sum in a sandbox is worth. -/
noncomputable def Try.pinned : Pinned := { name := "ytafddofajfcffaa", sum := "2e400cc7f30377b3019de846dbad2ef530345608832a865dc075b2465a533db6", checked := Try.checked }
namespace Rows
def none {H : Type} : Left H := { results := [], args := [] }

/-- 'laws.FnExactSetLine': WHATEVER THE INPUT: true; the input reads as it did. -/
def fnExactSetLineSpec : ChangeSpec := { name := "fnExactSetLine", fn := fun _ => fun
  | [d1, d2, d3, d4] => { results := [.lit (.bool true)], args := [d1, d2, d3, d4] }
  | _ => none }
def fnExactSetLineRow : OpenClaim := { program := "ytafddofajfcffaa", sum := "2e400cc7f30377b3019de846dbad2ef530345608832a865dc075b2465a533db6", func := "loop.example/typesetting/laws.FnExactSetLine", spec := "fnExactSetLine", unfollowed := true, recurses := true, apart := false }
def FnExactSetLineSaid : Prop := fnExactSetLineRow.holds Try.pinned (OpenSpec.ofChange fnExactSetLineSpec)

/-- ITS FALSE NEIGHBOUR: 'it returns false'. Refute it at one input. -/
def fnExactSetLineWrong : ChangeSpec := { name := "fnExactSetLine", fn := fun _ => fun
  | [d1, d2, d3, d4] => { results := [.lit (.bool false)], args := [d1, d2, d3, d4] }
  | _ => none }
def FnExactSetLineWrongFalsely : Prop := fnExactSetLineRow.holds Try.pinned (OpenSpec.ofChange fnExactSetLineWrong)

/-- 'laws.FnExactSetParagraph': WHATEVER THE INPUT: true; the input reads as it did. -/
def fnExactSetParagraphSpec : ChangeSpec := { name := "fnExactSetParagraph", fn := fun _ => fun
  | [d1, d2, d3] => { results := [.lit (.bool true)], args := [d1, d2, d3] }
  | _ => none }
def fnExactSetParagraphRow : OpenClaim := { program := "ytafddofajfcffaa", sum := "2e400cc7f30377b3019de846dbad2ef530345608832a865dc075b2465a533db6", func := "loop.example/typesetting/laws.FnExactSetParagraph", spec := "fnExactSetParagraph", unfollowed := true, recurses := true, apart := false }
def FnExactSetParagraphSaid : Prop := fnExactSetParagraphRow.holds Try.pinned (OpenSpec.ofChange fnExactSetParagraphSpec)

/-- ITS FALSE NEIGHBOUR: 'it returns false'. Refute it at one input. -/
def fnExactSetParagraphWrong : ChangeSpec := { name := "fnExactSetParagraph", fn := fun _ => fun
  | [d1, d2, d3] => { results := [.lit (.bool false)], args := [d1, d2, d3] }
  | _ => none }
def FnExactSetParagraphWrongFalsely : Prop := fnExactSetParagraphRow.holds Try.pinned (OpenSpec.ofChange fnExactSetParagraphWrong)

/-- 'laws.FnExactValidBreaks': WHATEVER THE INPUT: true; the input reads as it did. -/
def fnExactValidBreaksSpec : ChangeSpec := { name := "fnExactValidBreaks", fn := fun _ => fun
  | [d1, d2] => { results := [.lit (.bool true)], args := [d1, d2] }
  | _ => none }
def fnExactValidBreaksRow : OpenClaim := { program := "ytafddofajfcffaa", sum := "2e400cc7f30377b3019de846dbad2ef530345608832a865dc075b2465a533db6", func := "loop.example/typesetting/laws.FnExactValidBreaks", spec := "fnExactValidBreaks", unfollowed := true, recurses := true, apart := false }
def FnExactValidBreaksSaid : Prop := fnExactValidBreaksRow.holds Try.pinned (OpenSpec.ofChange fnExactValidBreaksSpec)

/-- ITS FALSE NEIGHBOUR: 'it returns false'. Refute it at one input. -/
def fnExactValidBreaksWrong : ChangeSpec := { name := "fnExactValidBreaks", fn := fun _ => fun
  | [d1, d2] => { results := [.lit (.bool false)], args := [d1, d2] }
  | _ => none }
def FnExactValidBreaksWrongFalsely : Prop := fnExactValidBreaksRow.holds Try.pinned (OpenSpec.ofChange fnExactValidBreaksWrong)

/-- 'laws.FnExactCheckBreaks': WHATEVER THE INPUT: true; the input reads as it did. -/
def fnExactCheckBreaksSpec : ChangeSpec := { name := "fnExactCheckBreaks", fn := fun _ => fun
  | [d1, d2, d3, d4] => { results := [.lit (.bool true)], args := [d1, d2, d3, d4] }
  | _ => none }
def fnExactCheckBreaksRow : OpenClaim := { program := "ytafddofajfcffaa", sum := "2e400cc7f30377b3019de846dbad2ef530345608832a865dc075b2465a533db6", func := "loop.example/typesetting/laws.FnExactCheckBreaks", spec := "fnExactCheckBreaks", unfollowed := true, recurses := true, apart := false }
def FnExactCheckBreaksSaid : Prop := fnExactCheckBreaksRow.holds Try.pinned (OpenSpec.ofChange fnExactCheckBreaksSpec)

/-- ITS FALSE NEIGHBOUR: 'it returns false'. Refute it at one input. -/
def fnExactCheckBreaksWrong : ChangeSpec := { name := "fnExactCheckBreaks", fn := fun _ => fun
  | [d1, d2, d3, d4] => { results := [.lit (.bool false)], args := [d1, d2, d3, d4] }
  | _ => none }
def FnExactCheckBreaksWrongFalsely : Prop := fnExactCheckBreaksRow.holds Try.pinned (OpenSpec.ofChange fnExactCheckBreaksWrong)

/-- 'laws.FnExactOverfullLines': WHATEVER THE INPUT: true; the input reads as it did. -/
def fnExactOverfullLinesSpec : ChangeSpec := { name := "fnExactOverfullLines", fn := fun _ => fun
  | [d1, d2, d3] => { results := [.lit (.bool true)], args := [d1, d2, d3] }
  | _ => none }
def fnExactOverfullLinesRow : OpenClaim := { program := "ytafddofajfcffaa", sum := "2e400cc7f30377b3019de846dbad2ef530345608832a865dc075b2465a533db6", func := "loop.example/typesetting/laws.FnExactOverfullLines", spec := "fnExactOverfullLines", unfollowed := true, recurses := true, apart := false }
def FnExactOverfullLinesSaid : Prop := fnExactOverfullLinesRow.holds Try.pinned (OpenSpec.ofChange fnExactOverfullLinesSpec)

/-- ITS FALSE NEIGHBOUR: 'it returns false'. Refute it at one input. -/
def fnExactOverfullLinesWrong : ChangeSpec := { name := "fnExactOverfullLines", fn := fun _ => fun
  | [d1, d2, d3] => { results := [.lit (.bool false)], args := [d1, d2, d3] }
  | _ => none }
def FnExactOverfullLinesWrongFalsely : Prop := fnExactOverfullLinesRow.holds Try.pinned (OpenSpec.ofChange fnExactOverfullLinesWrong)

/-- 'laws.FnExactFirstFit': WHATEVER THE INPUT: true; the input reads as it did. -/
def fnExactFirstFitSpec : ChangeSpec := { name := "fnExactFirstFit", fn := fun _ => fun
  | [d1, d2] => { results := [.lit (.bool true)], args := [d1, d2] }
  | _ => none }
def fnExactFirstFitRow : OpenClaim := { program := "ytafddofajfcffaa", sum := "2e400cc7f30377b3019de846dbad2ef530345608832a865dc075b2465a533db6", func := "loop.example/typesetting/laws.FnExactFirstFit", spec := "fnExactFirstFit", unfollowed := true, recurses := true, apart := false }
def FnExactFirstFitSaid : Prop := fnExactFirstFitRow.holds Try.pinned (OpenSpec.ofChange fnExactFirstFitSpec)

/-- ITS FALSE NEIGHBOUR: 'it returns false'. Refute it at one input. -/
def fnExactFirstFitWrong : ChangeSpec := { name := "fnExactFirstFit", fn := fun _ => fun
  | [d1, d2] => { results := [.lit (.bool false)], args := [d1, d2] }
  | _ => none }
def FnExactFirstFitWrongFalsely : Prop := fnExactFirstFitRow.holds Try.pinned (OpenSpec.ofChange fnExactFirstFitWrong)

/-- 'laws.FnExactCheckShape': WHATEVER THE INPUT: true; the input reads as it did. -/
def fnExactCheckShapeSpec : ChangeSpec := { name := "fnExactCheckShape", fn := fun _ => fun
  | [d1, d2, d3, d4] => { results := [.lit (.bool true)], args := [d1, d2, d3, d4] }
  | _ => none }
def fnExactCheckShapeRow : OpenClaim := { program := "ytafddofajfcffaa", sum := "2e400cc7f30377b3019de846dbad2ef530345608832a865dc075b2465a533db6", func := "loop.example/typesetting/laws.FnExactCheckShape", spec := "fnExactCheckShape", unfollowed := true, recurses := true, apart := false }
def FnExactCheckShapeSaid : Prop := fnExactCheckShapeRow.holds Try.pinned (OpenSpec.ofChange fnExactCheckShapeSpec)

/-- ITS FALSE NEIGHBOUR: 'it returns false'. Refute it at one input. -/
def fnExactCheckShapeWrong : ChangeSpec := { name := "fnExactCheckShape", fn := fun _ => fun
  | [d1, d2, d3, d4] => { results := [.lit (.bool false)], args := [d1, d2, d3, d4] }
  | _ => none }
def FnExactCheckShapeWrongFalsely : Prop := fnExactCheckShapeRow.holds Try.pinned (OpenSpec.ofChange fnExactCheckShapeWrong)

/-- 'laws.FnExactBestBreaks': WHATEVER THE INPUT: true; the input reads as it did. -/
def fnExactBestBreaksSpec : ChangeSpec := { name := "fnExactBestBreaks", fn := fun _ => fun
  | [d1, d2, d3] => { results := [.lit (.bool true)], args := [d1, d2, d3] }
  | _ => none }
def fnExactBestBreaksRow : OpenClaim := { program := "ytafddofajfcffaa", sum := "2e400cc7f30377b3019de846dbad2ef530345608832a865dc075b2465a533db6", func := "loop.example/typesetting/laws.FnExactBestBreaks", spec := "fnExactBestBreaks", unfollowed := true, recurses := true, apart := false }
def FnExactBestBreaksSaid : Prop := fnExactBestBreaksRow.holds Try.pinned (OpenSpec.ofChange fnExactBestBreaksSpec)

/-- ITS FALSE NEIGHBOUR: 'it returns false'. Refute it at one input. -/
def fnExactBestBreaksWrong : ChangeSpec := { name := "fnExactBestBreaks", fn := fun _ => fun
  | [d1, d2, d3] => { results := [.lit (.bool false)], args := [d1, d2, d3] }
  | _ => none }
def FnExactBestBreaksWrongFalsely : Prop := fnExactBestBreaksRow.holds Try.pinned (OpenSpec.ofChange fnExactBestBreaksWrong)

/-- 'laws.FnExactLeastLines': WHATEVER THE INPUT: true; the input reads as it did. -/
def fnExactLeastLinesSpec : ChangeSpec := { name := "fnExactLeastLines", fn := fun _ => fun
  | [d1, d2, d3] => { results := [.lit (.bool true)], args := [d1, d2, d3] }
  | _ => none }
def fnExactLeastLinesRow : OpenClaim := { program := "ytafddofajfcffaa", sum := "2e400cc7f30377b3019de846dbad2ef530345608832a865dc075b2465a533db6", func := "loop.example/typesetting/laws.FnExactLeastLines", spec := "fnExactLeastLines", unfollowed := true, recurses := true, apart := false }
def FnExactLeastLinesSaid : Prop := fnExactLeastLinesRow.holds Try.pinned (OpenSpec.ofChange fnExactLeastLinesSpec)

/-- ITS FALSE NEIGHBOUR: 'it returns false'. Refute it at one input. -/
def fnExactLeastLinesWrong : ChangeSpec := { name := "fnExactLeastLines", fn := fun _ => fun
  | [d1, d2, d3] => { results := [.lit (.bool false)], args := [d1, d2, d3] }
  | _ => none }
def FnExactLeastLinesWrongFalsely : Prop := fnExactLeastLinesRow.holds Try.pinned (OpenSpec.ofChange fnExactLeastLinesWrong)

/-- 'laws.FnValidBreaks': WHATEVER THE INPUT: true; the input reads as it did. -/
def fnValidBreaksSpec : ChangeSpec := { name := "fnValidBreaks", fn := fun _ => fun
  | [d] => { results := [.lit (.bool true)], args := [d] }
  | _ => none }
def fnValidBreaksRow : OpenClaim := { program := "ytafddofajfcffaa", sum := "2e400cc7f30377b3019de846dbad2ef530345608832a865dc075b2465a533db6", func := "loop.example/typesetting/laws.FnValidBreaks", spec := "fnValidBreaks", unfollowed := true, recurses := true, apart := false }
def FnValidBreaksSaid : Prop := fnValidBreaksRow.holds Try.pinned (OpenSpec.ofChange fnValidBreaksSpec)

/-- ITS FALSE NEIGHBOUR: 'it returns false'. Refute it at one input. -/
def fnValidBreaksWrong : ChangeSpec := { name := "fnValidBreaks", fn := fun _ => fun
  | [d] => { results := [.lit (.bool false)], args := [d] }
  | _ => none }
def FnValidBreaksWrongFalsely : Prop := fnValidBreaksRow.holds Try.pinned (OpenSpec.ofChange fnValidBreaksWrong)

/-- 'laws.FnCheckBreaks': WHATEVER THE INPUT: true; the input reads as it did. -/
def fnCheckBreaksSpec : ChangeSpec := { name := "fnCheckBreaks", fn := fun _ => fun
  | [d] => { results := [.lit (.bool true)], args := [d] }
  | _ => none }
def fnCheckBreaksRow : OpenClaim := { program := "ytafddofajfcffaa", sum := "2e400cc7f30377b3019de846dbad2ef530345608832a865dc075b2465a533db6", func := "loop.example/typesetting/laws.FnCheckBreaks", spec := "fnCheckBreaks", unfollowed := true, recurses := true, apart := false }
def FnCheckBreaksSaid : Prop := fnCheckBreaksRow.holds Try.pinned (OpenSpec.ofChange fnCheckBreaksSpec)

/-- ITS FALSE NEIGHBOUR: 'it returns false'. Refute it at one input. -/
def fnCheckBreaksWrong : ChangeSpec := { name := "fnCheckBreaks", fn := fun _ => fun
  | [d] => { results := [.lit (.bool false)], args := [d] }
  | _ => none }
def FnCheckBreaksWrongFalsely : Prop := fnCheckBreaksRow.holds Try.pinned (OpenSpec.ofChange fnCheckBreaksWrong)

/-- 'laws.FnOverfullLines': WHATEVER THE INPUT: true; the input reads as it did. -/
def fnOverfullLinesSpec : ChangeSpec := { name := "fnOverfullLines", fn := fun _ => fun
  | [d] => { results := [.lit (.bool true)], args := [d] }
  | _ => none }
def fnOverfullLinesRow : OpenClaim := { program := "ytafddofajfcffaa", sum := "2e400cc7f30377b3019de846dbad2ef530345608832a865dc075b2465a533db6", func := "loop.example/typesetting/laws.FnOverfullLines", spec := "fnOverfullLines", unfollowed := true, recurses := true, apart := false }
def FnOverfullLinesSaid : Prop := fnOverfullLinesRow.holds Try.pinned (OpenSpec.ofChange fnOverfullLinesSpec)

/-- ITS FALSE NEIGHBOUR: 'it returns false'. Refute it at one input. -/
def fnOverfullLinesWrong : ChangeSpec := { name := "fnOverfullLines", fn := fun _ => fun
  | [d] => { results := [.lit (.bool false)], args := [d] }
  | _ => none }
def FnOverfullLinesWrongFalsely : Prop := fnOverfullLinesRow.holds Try.pinned (OpenSpec.ofChange fnOverfullLinesWrong)

/-- 'laws.FnSetLine': WHATEVER THE INPUT: true; the input reads as it did. -/
def fnSetLineSpec : ChangeSpec := { name := "fnSetLine", fn := fun _ => fun
  | [d] => { results := [.lit (.bool true)], args := [d] }
  | _ => none }
def fnSetLineRow : OpenClaim := { program := "ytafddofajfcffaa", sum := "2e400cc7f30377b3019de846dbad2ef530345608832a865dc075b2465a533db6", func := "loop.example/typesetting/laws.FnSetLine", spec := "fnSetLine", unfollowed := true, recurses := true, apart := false }
def FnSetLineSaid : Prop := fnSetLineRow.holds Try.pinned (OpenSpec.ofChange fnSetLineSpec)

/-- ITS FALSE NEIGHBOUR: 'it returns false'. Refute it at one input. -/
def fnSetLineWrong : ChangeSpec := { name := "fnSetLine", fn := fun _ => fun
  | [d] => { results := [.lit (.bool false)], args := [d] }
  | _ => none }
def FnSetLineWrongFalsely : Prop := fnSetLineRow.holds Try.pinned (OpenSpec.ofChange fnSetLineWrong)

/-- 'laws.FnSetBoxes': WHATEVER THE INPUT: true; the input reads as it did. -/
def fnSetBoxesSpec : ChangeSpec := { name := "fnSetBoxes", fn := fun _ => fun
  | [d] => { results := [.lit (.bool true)], args := [d] }
  | _ => none }
def fnSetBoxesRow : OpenClaim := { program := "ytafddofajfcffaa", sum := "2e400cc7f30377b3019de846dbad2ef530345608832a865dc075b2465a533db6", func := "loop.example/typesetting/laws.FnSetBoxes", spec := "fnSetBoxes", unfollowed := true, recurses := true, apart := false }
def FnSetBoxesSaid : Prop := fnSetBoxesRow.holds Try.pinned (OpenSpec.ofChange fnSetBoxesSpec)

/-- ITS FALSE NEIGHBOUR: 'it returns false'. Refute it at one input. -/
def fnSetBoxesWrong : ChangeSpec := { name := "fnSetBoxes", fn := fun _ => fun
  | [d] => { results := [.lit (.bool false)], args := [d] }
  | _ => none }
def FnSetBoxesWrongFalsely : Prop := fnSetBoxesRow.holds Try.pinned (OpenSpec.ofChange fnSetBoxesWrong)

/-- 'laws.FnSetParagraph': WHATEVER THE INPUT: true; the input reads as it did. -/
def fnSetParagraphSpec : ChangeSpec := { name := "fnSetParagraph", fn := fun _ => fun
  | [d] => { results := [.lit (.bool true)], args := [d] }
  | _ => none }
def fnSetParagraphRow : OpenClaim := { program := "ytafddofajfcffaa", sum := "2e400cc7f30377b3019de846dbad2ef530345608832a865dc075b2465a533db6", func := "loop.example/typesetting/laws.FnSetParagraph", spec := "fnSetParagraph", unfollowed := true, recurses := true, apart := false }
def FnSetParagraphSaid : Prop := fnSetParagraphRow.holds Try.pinned (OpenSpec.ofChange fnSetParagraphSpec)

/-- ITS FALSE NEIGHBOUR: 'it returns false'. Refute it at one input. -/
def fnSetParagraphWrong : ChangeSpec := { name := "fnSetParagraph", fn := fun _ => fun
  | [d] => { results := [.lit (.bool false)], args := [d] }
  | _ => none }
def FnSetParagraphWrongFalsely : Prop := fnSetParagraphRow.holds Try.pinned (OpenSpec.ofChange fnSetParagraphWrong)

/-- 'laws.FnFirstFit': WHATEVER THE INPUT: true; the input reads as it did. -/
def fnFirstFitSpec : ChangeSpec := { name := "fnFirstFit", fn := fun _ => fun
  | [d] => { results := [.lit (.bool true)], args := [d] }
  | _ => none }
def fnFirstFitRow : OpenClaim := { program := "ytafddofajfcffaa", sum := "2e400cc7f30377b3019de846dbad2ef530345608832a865dc075b2465a533db6", func := "loop.example/typesetting/laws.FnFirstFit", spec := "fnFirstFit", unfollowed := true, recurses := true, apart := false }
def FnFirstFitSaid : Prop := fnFirstFitRow.holds Try.pinned (OpenSpec.ofChange fnFirstFitSpec)

/-- ITS FALSE NEIGHBOUR: 'it returns false'. Refute it at one input. -/
def fnFirstFitWrong : ChangeSpec := { name := "fnFirstFit", fn := fun _ => fun
  | [d] => { results := [.lit (.bool false)], args := [d] }
  | _ => none }
def FnFirstFitWrongFalsely : Prop := fnFirstFitRow.holds Try.pinned (OpenSpec.ofChange fnFirstFitWrong)

/-- 'laws.FnBestBreaks': WHATEVER THE INPUT: true; the input reads as it did. -/
def fnBestBreaksSpec : ChangeSpec := { name := "fnBestBreaks", fn := fun _ => fun
  | [d] => { results := [.lit (.bool true)], args := [d] }
  | _ => none }
def fnBestBreaksRow : OpenClaim := { program := "ytafddofajfcffaa", sum := "2e400cc7f30377b3019de846dbad2ef530345608832a865dc075b2465a533db6", func := "loop.example/typesetting/laws.FnBestBreaks", spec := "fnBestBreaks", unfollowed := true, recurses := true, apart := false }
def FnBestBreaksSaid : Prop := fnBestBreaksRow.holds Try.pinned (OpenSpec.ofChange fnBestBreaksSpec)

/-- ITS FALSE NEIGHBOUR: 'it returns false'. Refute it at one input. -/
def fnBestBreaksWrong : ChangeSpec := { name := "fnBestBreaks", fn := fun _ => fun
  | [d] => { results := [.lit (.bool false)], args := [d] }
  | _ => none }
def FnBestBreaksWrongFalsely : Prop := fnBestBreaksRow.holds Try.pinned (OpenSpec.ofChange fnBestBreaksWrong)

/-- 'laws.FnBestOfAll': WHATEVER THE INPUT: true; the input reads as it did. -/
def fnBestOfAllSpec : ChangeSpec := { name := "fnBestOfAll", fn := fun _ => fun
  | [d] => { results := [.lit (.bool true)], args := [d] }
  | _ => none }
def fnBestOfAllRow : OpenClaim := { program := "ytafddofajfcffaa", sum := "2e400cc7f30377b3019de846dbad2ef530345608832a865dc075b2465a533db6", func := "loop.example/typesetting/laws.FnBestOfAll", spec := "fnBestOfAll", unfollowed := true, recurses := true, apart := false }
def FnBestOfAllSaid : Prop := fnBestOfAllRow.holds Try.pinned (OpenSpec.ofChange fnBestOfAllSpec)

/-- ITS FALSE NEIGHBOUR: 'it returns false'. Refute it at one input. -/
def fnBestOfAllWrong : ChangeSpec := { name := "fnBestOfAll", fn := fun _ => fun
  | [d] => { results := [.lit (.bool false)], args := [d] }
  | _ => none }
def FnBestOfAllWrongFalsely : Prop := fnBestOfAllRow.holds Try.pinned (OpenSpec.ofChange fnBestOfAllWrong)

/-- 'laws.FnCheckShape': WHATEVER THE INPUT: true; the input reads as it did. -/
def fnCheckShapeSpec : ChangeSpec := { name := "fnCheckShape", fn := fun _ => fun
  | [d] => { results := [.lit (.bool true)], args := [d] }
  | _ => none }
def fnCheckShapeRow : OpenClaim := { program := "ytafddofajfcffaa", sum := "2e400cc7f30377b3019de846dbad2ef530345608832a865dc075b2465a533db6", func := "loop.example/typesetting/laws.FnCheckShape", spec := "fnCheckShape", unfollowed := true, recurses := true, apart := false }
def FnCheckShapeSaid : Prop := fnCheckShapeRow.holds Try.pinned (OpenSpec.ofChange fnCheckShapeSpec)

/-- ITS FALSE NEIGHBOUR: 'it returns false'. Refute it at one input. -/
def fnCheckShapeWrong : ChangeSpec := { name := "fnCheckShape", fn := fun _ => fun
  | [d] => { results := [.lit (.bool false)], args := [d] }
  | _ => none }
def FnCheckShapeWrongFalsely : Prop := fnCheckShapeRow.holds Try.pinned (OpenSpec.ofChange fnCheckShapeWrong)

/-- 'laws.FnBestForced': WHATEVER THE INPUT: true; the input reads as it did. -/
def fnBestForcedSpec : ChangeSpec := { name := "fnBestForced", fn := fun _ => fun
  | [d] => { results := [.lit (.bool true)], args := [d] }
  | _ => none }
def fnBestForcedRow : OpenClaim := { program := "ytafddofajfcffaa", sum := "2e400cc7f30377b3019de846dbad2ef530345608832a865dc075b2465a533db6", func := "loop.example/typesetting/laws.FnBestForced", spec := "fnBestForced", unfollowed := true, recurses := true, apart := false }
def FnBestForcedSaid : Prop := fnBestForcedRow.holds Try.pinned (OpenSpec.ofChange fnBestForcedSpec)

/-- ITS FALSE NEIGHBOUR: 'it returns false'. Refute it at one input. -/
def fnBestForcedWrong : ChangeSpec := { name := "fnBestForced", fn := fun _ => fun
  | [d] => { results := [.lit (.bool false)], args := [d] }
  | _ => none }
def FnBestForcedWrongFalsely : Prop := fnBestForcedRow.holds Try.pinned (OpenSpec.ofChange fnBestForcedWrong)

/- THE SECOND FORM. 'bulk': how many values and letters a reading holds, each counted each time it is reached (what is shared counts as often as it is met; a slice's spare places count too). A statement '..UptoSaid' is the law's where the arguments, and the package variables that the reading takes, are together of bulk at most 1048576: NARROWER than '..Said'. Prove '..Said' where nothing that the law and all that it calls make is longer than what came in: it says more and counts as full. Else prove '..UptoSaid'. A law counts once. -/
mutual
def uptoBulk {H : Type} : DataW H → Nat
  | .lit (.string bytes) => bytes.length + 1
  | .lit _ => 1
  | .nil => 1
  | .ptr d => uptoBulk d + 1
  | .slice elems spare => uptoBulkAll elems + uptoBulkAll spare + 1
  | .agg parts => uptoBulkAll parts + 1
  | .iface _ d => uptoBulk d + 1
  | .map entries => uptoBulkEntries entries + 1
  | .held _ => 1
def uptoBulkAll {H : Type} : List (DataW H) → Nat
  | [] => 0
  | d :: r => uptoBulk d + uptoBulkAll r
def uptoBulkEntries {H : Type} : List (Lit × DataW H) → Nat
  | [] => 0
  | x :: r => uptoBulkEntry x + uptoBulkEntries r
def uptoBulkEntry {H : Type} : Lit × DataW H → Nat
  | (.string bytes, d) => bytes.length + uptoBulk d + 1
  | (_, d) => uptoBulk d + 1
 end
def uptoSmall : (H : Type) → List (DataW H) → Bool := fun _ ds => decide (uptoBulkAll ds ≤ 1048576)
def OpenSpec.upto (s : _root_.Go.ChangeSpec) : _root_.Go.OpenSpec := { _root_.Go.OpenSpec.ofChange s with cond := some uptoSmall }

/-- 'laws.FnExactSetLine', WHERE WHAT IT READS IS OF BULK AT MOST 1048576: true; the input reads as it did. -/
def fnExactSetLineUptoRow : OpenClaim := { program := "ytafddofajfcffaa", sum := "2e400cc7f30377b3019de846dbad2ef530345608832a865dc075b2465a533db6", func := "loop.example/typesetting/laws.FnExactSetLine", spec := "fnExactSetLine", unfollowed := true, recurses := true, apart := false, narrowed := true }
def FnExactSetLineUptoSaid : Prop := fnExactSetLineUptoRow.holds Try.pinned (OpenSpec.upto fnExactSetLineSpec)

/-- 'laws.FnExactSetParagraph', WHERE WHAT IT READS IS OF BULK AT MOST 1048576: true; the input reads as it did. -/
def fnExactSetParagraphUptoRow : OpenClaim := { program := "ytafddofajfcffaa", sum := "2e400cc7f30377b3019de846dbad2ef530345608832a865dc075b2465a533db6", func := "loop.example/typesetting/laws.FnExactSetParagraph", spec := "fnExactSetParagraph", unfollowed := true, recurses := true, apart := false, narrowed := true }
def FnExactSetParagraphUptoSaid : Prop := fnExactSetParagraphUptoRow.holds Try.pinned (OpenSpec.upto fnExactSetParagraphSpec)

/-- 'laws.FnExactValidBreaks', WHERE WHAT IT READS IS OF BULK AT MOST 1048576: true; the input reads as it did. -/
def fnExactValidBreaksUptoRow : OpenClaim := { program := "ytafddofajfcffaa", sum := "2e400cc7f30377b3019de846dbad2ef530345608832a865dc075b2465a533db6", func := "loop.example/typesetting/laws.FnExactValidBreaks", spec := "fnExactValidBreaks", unfollowed := true, recurses := true, apart := false, narrowed := true }
def FnExactValidBreaksUptoSaid : Prop := fnExactValidBreaksUptoRow.holds Try.pinned (OpenSpec.upto fnExactValidBreaksSpec)

/-- 'laws.FnExactCheckBreaks', WHERE WHAT IT READS IS OF BULK AT MOST 1048576: true; the input reads as it did. -/
def fnExactCheckBreaksUptoRow : OpenClaim := { program := "ytafddofajfcffaa", sum := "2e400cc7f30377b3019de846dbad2ef530345608832a865dc075b2465a533db6", func := "loop.example/typesetting/laws.FnExactCheckBreaks", spec := "fnExactCheckBreaks", unfollowed := true, recurses := true, apart := false, narrowed := true }
def FnExactCheckBreaksUptoSaid : Prop := fnExactCheckBreaksUptoRow.holds Try.pinned (OpenSpec.upto fnExactCheckBreaksSpec)

/-- 'laws.FnExactOverfullLines', WHERE WHAT IT READS IS OF BULK AT MOST 1048576: true; the input reads as it did. -/
def fnExactOverfullLinesUptoRow : OpenClaim := { program := "ytafddofajfcffaa", sum := "2e400cc7f30377b3019de846dbad2ef530345608832a865dc075b2465a533db6", func := "loop.example/typesetting/laws.FnExactOverfullLines", spec := "fnExactOverfullLines", unfollowed := true, recurses := true, apart := false, narrowed := true }
def FnExactOverfullLinesUptoSaid : Prop := fnExactOverfullLinesUptoRow.holds Try.pinned (OpenSpec.upto fnExactOverfullLinesSpec)

/-- 'laws.FnExactFirstFit', WHERE WHAT IT READS IS OF BULK AT MOST 1048576: true; the input reads as it did. -/
def fnExactFirstFitUptoRow : OpenClaim := { program := "ytafddofajfcffaa", sum := "2e400cc7f30377b3019de846dbad2ef530345608832a865dc075b2465a533db6", func := "loop.example/typesetting/laws.FnExactFirstFit", spec := "fnExactFirstFit", unfollowed := true, recurses := true, apart := false, narrowed := true }
def FnExactFirstFitUptoSaid : Prop := fnExactFirstFitUptoRow.holds Try.pinned (OpenSpec.upto fnExactFirstFitSpec)

/-- 'laws.FnExactCheckShape', WHERE WHAT IT READS IS OF BULK AT MOST 1048576: true; the input reads as it did. -/
def fnExactCheckShapeUptoRow : OpenClaim := { program := "ytafddofajfcffaa", sum := "2e400cc7f30377b3019de846dbad2ef530345608832a865dc075b2465a533db6", func := "loop.example/typesetting/laws.FnExactCheckShape", spec := "fnExactCheckShape", unfollowed := true, recurses := true, apart := false, narrowed := true }
def FnExactCheckShapeUptoSaid : Prop := fnExactCheckShapeUptoRow.holds Try.pinned (OpenSpec.upto fnExactCheckShapeSpec)

/-- 'laws.FnExactBestBreaks', WHERE WHAT IT READS IS OF BULK AT MOST 1048576: true; the input reads as it did. -/
def fnExactBestBreaksUptoRow : OpenClaim := { program := "ytafddofajfcffaa", sum := "2e400cc7f30377b3019de846dbad2ef530345608832a865dc075b2465a533db6", func := "loop.example/typesetting/laws.FnExactBestBreaks", spec := "fnExactBestBreaks", unfollowed := true, recurses := true, apart := false, narrowed := true }
def FnExactBestBreaksUptoSaid : Prop := fnExactBestBreaksUptoRow.holds Try.pinned (OpenSpec.upto fnExactBestBreaksSpec)

/-- 'laws.FnExactLeastLines', WHERE WHAT IT READS IS OF BULK AT MOST 1048576: true; the input reads as it did. -/
def fnExactLeastLinesUptoRow : OpenClaim := { program := "ytafddofajfcffaa", sum := "2e400cc7f30377b3019de846dbad2ef530345608832a865dc075b2465a533db6", func := "loop.example/typesetting/laws.FnExactLeastLines", spec := "fnExactLeastLines", unfollowed := true, recurses := true, apart := false, narrowed := true }
def FnExactLeastLinesUptoSaid : Prop := fnExactLeastLinesUptoRow.holds Try.pinned (OpenSpec.upto fnExactLeastLinesSpec)

/-- 'laws.FnValidBreaks', WHERE WHAT IT READS IS OF BULK AT MOST 1048576: true; the input reads as it did. -/
def fnValidBreaksUptoRow : OpenClaim := { program := "ytafddofajfcffaa", sum := "2e400cc7f30377b3019de846dbad2ef530345608832a865dc075b2465a533db6", func := "loop.example/typesetting/laws.FnValidBreaks", spec := "fnValidBreaks", unfollowed := true, recurses := true, apart := false, narrowed := true }
def FnValidBreaksUptoSaid : Prop := fnValidBreaksUptoRow.holds Try.pinned (OpenSpec.upto fnValidBreaksSpec)

/-- 'laws.FnCheckBreaks', WHERE WHAT IT READS IS OF BULK AT MOST 1048576: true; the input reads as it did. -/
def fnCheckBreaksUptoRow : OpenClaim := { program := "ytafddofajfcffaa", sum := "2e400cc7f30377b3019de846dbad2ef530345608832a865dc075b2465a533db6", func := "loop.example/typesetting/laws.FnCheckBreaks", spec := "fnCheckBreaks", unfollowed := true, recurses := true, apart := false, narrowed := true }
def FnCheckBreaksUptoSaid : Prop := fnCheckBreaksUptoRow.holds Try.pinned (OpenSpec.upto fnCheckBreaksSpec)

/-- 'laws.FnOverfullLines', WHERE WHAT IT READS IS OF BULK AT MOST 1048576: true; the input reads as it did. -/
def fnOverfullLinesUptoRow : OpenClaim := { program := "ytafddofajfcffaa", sum := "2e400cc7f30377b3019de846dbad2ef530345608832a865dc075b2465a533db6", func := "loop.example/typesetting/laws.FnOverfullLines", spec := "fnOverfullLines", unfollowed := true, recurses := true, apart := false, narrowed := true }
def FnOverfullLinesUptoSaid : Prop := fnOverfullLinesUptoRow.holds Try.pinned (OpenSpec.upto fnOverfullLinesSpec)

/-- 'laws.FnSetLine', WHERE WHAT IT READS IS OF BULK AT MOST 1048576: true; the input reads as it did. -/
def fnSetLineUptoRow : OpenClaim := { program := "ytafddofajfcffaa", sum := "2e400cc7f30377b3019de846dbad2ef530345608832a865dc075b2465a533db6", func := "loop.example/typesetting/laws.FnSetLine", spec := "fnSetLine", unfollowed := true, recurses := true, apart := false, narrowed := true }
def FnSetLineUptoSaid : Prop := fnSetLineUptoRow.holds Try.pinned (OpenSpec.upto fnSetLineSpec)

/-- 'laws.FnSetBoxes', WHERE WHAT IT READS IS OF BULK AT MOST 1048576: true; the input reads as it did. -/
def fnSetBoxesUptoRow : OpenClaim := { program := "ytafddofajfcffaa", sum := "2e400cc7f30377b3019de846dbad2ef530345608832a865dc075b2465a533db6", func := "loop.example/typesetting/laws.FnSetBoxes", spec := "fnSetBoxes", unfollowed := true, recurses := true, apart := false, narrowed := true }
def FnSetBoxesUptoSaid : Prop := fnSetBoxesUptoRow.holds Try.pinned (OpenSpec.upto fnSetBoxesSpec)

/-- 'laws.FnSetParagraph', WHERE WHAT IT READS IS OF BULK AT MOST 1048576: true; the input reads as it did. -/
def fnSetParagraphUptoRow : OpenClaim := { program := "ytafddofajfcffaa", sum := "2e400cc7f30377b3019de846dbad2ef530345608832a865dc075b2465a533db6", func := "loop.example/typesetting/laws.FnSetParagraph", spec := "fnSetParagraph", unfollowed := true, recurses := true, apart := false, narrowed := true }
def FnSetParagraphUptoSaid : Prop := fnSetParagraphUptoRow.holds Try.pinned (OpenSpec.upto fnSetParagraphSpec)

/-- 'laws.FnFirstFit', WHERE WHAT IT READS IS OF BULK AT MOST 1048576: true; the input reads as it did. -/
def fnFirstFitUptoRow : OpenClaim := { program := "ytafddofajfcffaa", sum := "2e400cc7f30377b3019de846dbad2ef530345608832a865dc075b2465a533db6", func := "loop.example/typesetting/laws.FnFirstFit", spec := "fnFirstFit", unfollowed := true, recurses := true, apart := false, narrowed := true }
def FnFirstFitUptoSaid : Prop := fnFirstFitUptoRow.holds Try.pinned (OpenSpec.upto fnFirstFitSpec)

/-- 'laws.FnBestBreaks', WHERE WHAT IT READS IS OF BULK AT MOST 1048576: true; the input reads as it did. -/
def fnBestBreaksUptoRow : OpenClaim := { program := "ytafddofajfcffaa", sum := "2e400cc7f30377b3019de846dbad2ef530345608832a865dc075b2465a533db6", func := "loop.example/typesetting/laws.FnBestBreaks", spec := "fnBestBreaks", unfollowed := true, recurses := true, apart := false, narrowed := true }
def FnBestBreaksUptoSaid : Prop := fnBestBreaksUptoRow.holds Try.pinned (OpenSpec.upto fnBestBreaksSpec)

/-- 'laws.FnBestOfAll', WHERE WHAT IT READS IS OF BULK AT MOST 1048576: true; the input reads as it did. -/
def fnBestOfAllUptoRow : OpenClaim := { program := "ytafddofajfcffaa", sum := "2e400cc7f30377b3019de846dbad2ef530345608832a865dc075b2465a533db6", func := "loop.example/typesetting/laws.FnBestOfAll", spec := "fnBestOfAll", unfollowed := true, recurses := true, apart := false, narrowed := true }
def FnBestOfAllUptoSaid : Prop := fnBestOfAllUptoRow.holds Try.pinned (OpenSpec.upto fnBestOfAllSpec)

/-- 'laws.FnCheckShape', WHERE WHAT IT READS IS OF BULK AT MOST 1048576: true; the input reads as it did. -/
def fnCheckShapeUptoRow : OpenClaim := { program := "ytafddofajfcffaa", sum := "2e400cc7f30377b3019de846dbad2ef530345608832a865dc075b2465a533db6", func := "loop.example/typesetting/laws.FnCheckShape", spec := "fnCheckShape", unfollowed := true, recurses := true, apart := false, narrowed := true }
def FnCheckShapeUptoSaid : Prop := fnCheckShapeUptoRow.holds Try.pinned (OpenSpec.upto fnCheckShapeSpec)

/-- 'laws.FnBestForced', WHERE WHAT IT READS IS OF BULK AT MOST 1048576: true; the input reads as it did. -/
def fnBestForcedUptoRow : OpenClaim := { program := "ytafddofajfcffaa", sum := "2e400cc7f30377b3019de846dbad2ef530345608832a865dc075b2465a533db6", func := "loop.example/typesetting/laws.FnBestForced", spec := "fnBestForced", unfollowed := true, recurses := true, apart := false, narrowed := true }
def FnBestForcedUptoSaid : Prop := fnBestForcedUptoRow.holds Try.pinned (OpenSpec.upto fnBestForcedSpec)

end Rows
end Go.Proofs.Ytafddofajfcffaa
