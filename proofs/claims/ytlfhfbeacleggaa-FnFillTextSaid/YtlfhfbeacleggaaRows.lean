/-
  No cell of these rows narrows 'for every input' (looked for: loops, veiled, ifaces, maps, wideKeys, modest, calm, conditions, laid).
  DERIVED. THE GIVEN ROWS OF THIS SEAT. 17 by the template 'for every input the law returns true; each argument reads behind the call as it read before'; 0 by the template 'total and deterministic' (their statements: YtlfhfbeacleggaaTotals.lean).
  GIVEN WITH THE SEED: the statements are not yours to turn. If you find one false, say at which input.
  Laid BY PROGRAM, IN A SANDBOX (cutbox-rows.mjs): the forced cells as the released guide's own fill.sh prints them over the translation d16526ddee6f34a6… (all of the seat's roots in one cut). By AI agents, Wed Nov 11 2026. No macro, syntax, notation, axiom, sorry.
-/
import Derived.Test.YtlfhfbeacleggaaChecked
import GoSem.Claim
import GoSem.ClaimJoined
import GoSem.ClaimMapViews
import Derived.JoinedTies
import Derived.KernelRfl
namespace Go.Proofs.Ytlfhfbeacleggaa
/- THE CELL 'sum', in the pinned program and in every row, IS THE sha256 OF THE DUMP (.gsa) THAT YtlfhfbeacleggaaProg.lean LOADS. Nothing in Lean hashes anything: it is a label: what it is worth is what the hold of that sum in a sandbox is worth. -/
noncomputable def Try.pinned : Pinned := { name := "ytlfhfbeacleggaa", sum := "d16526ddee6f34a60790e4ef5e97a27a473fbde62b85fa7852a1e2b3ba415763", checked := Try.checked }
namespace Rows
def none {H : Type} : Left H := { results := [], args := [] }

/-- 'laws.FnExactFillText': WHATEVER THE INPUT: true; the input reads as it did. -/
def fnExactFillTextSpec : ChangeSpec := { name := "fnExactFillText", fn := fun _ => fun
  | [d1, d2] => { results := [.lit (.bool true)], args := [d1, d2] }
  | _ => none }
def fnExactFillTextRow : OpenClaim := { program := "ytlfhfbeacleggaa", sum := "d16526ddee6f34a60790e4ef5e97a27a473fbde62b85fa7852a1e2b3ba415763", func := "loop.example/typesetting/laws.FnExactFillText", spec := "fnExactFillText", inPlace := ["internal/abi.NoEscape", "internal/bytealg.MakeNoZero"], unfollowed := true, recurses := true, apart := false }
def FnExactFillTextSaid : Prop := fnExactFillTextRow.holds Try.pinned (OpenSpec.ofChange fnExactFillTextSpec)

/-- ITS FALSE NEIGHBOUR: 'it returns false'. Refute it at one input. -/
def fnExactFillTextWrong : ChangeSpec := { name := "fnExactFillText", fn := fun _ => fun
  | [d1, d2] => { results := [.lit (.bool false)], args := [d1, d2] }
  | _ => none }
def FnExactFillTextWrongFalsely : Prop := fnExactFillTextRow.holds Try.pinned (OpenSpec.ofChange fnExactFillTextWrong)

/-- 'laws.FnFillText': WHATEVER THE INPUT: true; the input reads as it did. -/
def fnFillTextSpec : ChangeSpec := { name := "fnFillText", fn := fun _ => fun
  | [d] => { results := [.lit (.bool true)], args := [d] }
  | _ => none }
def fnFillTextRow : OpenClaim := { program := "ytlfhfbeacleggaa", sum := "d16526ddee6f34a60790e4ef5e97a27a473fbde62b85fa7852a1e2b3ba415763", func := "loop.example/typesetting/laws.FnFillText", spec := "fnFillText", inPlace := ["internal/abi.NoEscape", "internal/bytealg.MakeNoZero"], unfollowed := true, recurses := true, apart := false }
def FnFillTextSaid : Prop := fnFillTextRow.holds Try.pinned (OpenSpec.ofChange fnFillTextSpec)

/-- ITS FALSE NEIGHBOUR: 'it returns false'. Refute it at one input. -/
def fnFillTextWrong : ChangeSpec := { name := "fnFillText", fn := fun _ => fun
  | [d] => { results := [.lit (.bool false)], args := [d] }
  | _ => none }
def FnFillTextWrongFalsely : Prop := fnFillTextRow.holds Try.pinned (OpenSpec.ofChange fnFillTextWrong)

/-- 'laws.FnFillLast': WHATEVER THE INPUT: true; the input reads as it did. -/
def fnFillLastSpec : ChangeSpec := { name := "fnFillLast", fn := fun _ => fun
  | [d] => { results := [.lit (.bool true)], args := [d] }
  | _ => none }
def fnFillLastRow : OpenClaim := { program := "ytlfhfbeacleggaa", sum := "d16526ddee6f34a60790e4ef5e97a27a473fbde62b85fa7852a1e2b3ba415763", func := "loop.example/typesetting/laws.FnFillLast", spec := "fnFillLast", inPlace := ["internal/abi.NoEscape", "internal/bytealg.MakeNoZero"], unfollowed := true, recurses := true, apart := false }
def FnFillLastSaid : Prop := fnFillLastRow.holds Try.pinned (OpenSpec.ofChange fnFillLastSpec)

/-- ITS FALSE NEIGHBOUR: 'it returns false'. Refute it at one input. -/
def fnFillLastWrong : ChangeSpec := { name := "fnFillLast", fn := fun _ => fun
  | [d] => { results := [.lit (.bool false)], args := [d] }
  | _ => none }
def FnFillLastWrongFalsely : Prop := fnFillLastRow.holds Try.pinned (OpenSpec.ofChange fnFillLastWrong)

/-- 'laws.FnExactTextLines': WHATEVER THE INPUT: true; the input reads as it did. -/
def fnExactTextLinesSpec : ChangeSpec := { name := "fnExactTextLines", fn := fun _ => fun
  | [d1, d2] => { results := [.lit (.bool true)], args := [d1, d2] }
  | _ => none }
def fnExactTextLinesRow : OpenClaim := { program := "ytlfhfbeacleggaa", sum := "d16526ddee6f34a60790e4ef5e97a27a473fbde62b85fa7852a1e2b3ba415763", func := "loop.example/typesetting/laws.FnExactTextLines", spec := "fnExactTextLines", unfollowed := true, recurses := true, apart := false }
def FnExactTextLinesSaid : Prop := fnExactTextLinesRow.holds Try.pinned (OpenSpec.ofChange fnExactTextLinesSpec)

/-- ITS FALSE NEIGHBOUR: 'it returns false'. Refute it at one input. -/
def fnExactTextLinesWrong : ChangeSpec := { name := "fnExactTextLines", fn := fun _ => fun
  | [d1, d2] => { results := [.lit (.bool false)], args := [d1, d2] }
  | _ => none }
def FnExactTextLinesWrongFalsely : Prop := fnExactTextLinesRow.holds Try.pinned (OpenSpec.ofChange fnExactTextLinesWrong)

/-- 'laws.FnTextLines': WHATEVER THE INPUT: true; the input reads as it did. -/
def fnTextLinesSpec : ChangeSpec := { name := "fnTextLines", fn := fun _ => fun
  | [d] => { results := [.lit (.bool true)], args := [d] }
  | _ => none }
def fnTextLinesRow : OpenClaim := { program := "ytlfhfbeacleggaa", sum := "d16526ddee6f34a60790e4ef5e97a27a473fbde62b85fa7852a1e2b3ba415763", func := "loop.example/typesetting/laws.FnTextLines", spec := "fnTextLines", unfollowed := true, recurses := true, apart := false }
def FnTextLinesSaid : Prop := fnTextLinesRow.holds Try.pinned (OpenSpec.ofChange fnTextLinesSpec)

/-- ITS FALSE NEIGHBOUR: 'it returns false'. Refute it at one input. -/
def fnTextLinesWrong : ChangeSpec := { name := "fnTextLines", fn := fun _ => fun
  | [d] => { results := [.lit (.bool false)], args := [d] }
  | _ => none }
def FnTextLinesWrongFalsely : Prop := fnTextLinesRow.holds Try.pinned (OpenSpec.ofChange fnTextLinesWrong)

/-- 'laws.FnWidowPenalties': WHATEVER THE INPUT: true; the input reads as it did. -/
def fnWidowPenaltiesSpec : ChangeSpec := { name := "fnWidowPenalties", fn := fun _ => fun
  | [d] => { results := [.lit (.bool true)], args := [d] }
  | _ => none }
def fnWidowPenaltiesRow : OpenClaim := { program := "ytlfhfbeacleggaa", sum := "d16526ddee6f34a60790e4ef5e97a27a473fbde62b85fa7852a1e2b3ba415763", func := "loop.example/typesetting/laws.FnWidowPenalties", spec := "fnWidowPenalties", unfollowed := true, recurses := true, apart := false }
def FnWidowPenaltiesSaid : Prop := fnWidowPenaltiesRow.holds Try.pinned (OpenSpec.ofChange fnWidowPenaltiesSpec)

/-- ITS FALSE NEIGHBOUR: 'it returns false'. Refute it at one input. -/
def fnWidowPenaltiesWrong : ChangeSpec := { name := "fnWidowPenalties", fn := fun _ => fun
  | [d] => { results := [.lit (.bool false)], args := [d] }
  | _ => none }
def FnWidowPenaltiesWrongFalsely : Prop := fnWidowPenaltiesRow.holds Try.pinned (OpenSpec.ofChange fnWidowPenaltiesWrong)

/-- 'laws.FnExactShapeBreaks': WHATEVER THE INPUT: true; the input reads as it did. -/
def fnExactShapeBreaksSpec : ChangeSpec := { name := "fnExactShapeBreaks", fn := fun _ => fun
  | [d1, d2, d3] => { results := [.lit (.bool true)], args := [d1, d2, d3] }
  | _ => none }
def fnExactShapeBreaksRow : OpenClaim := { program := "ytlfhfbeacleggaa", sum := "d16526ddee6f34a60790e4ef5e97a27a473fbde62b85fa7852a1e2b3ba415763", func := "loop.example/typesetting/laws.FnExactShapeBreaks", spec := "fnExactShapeBreaks", unfollowed := true, recurses := true, apart := false }
def FnExactShapeBreaksSaid : Prop := fnExactShapeBreaksRow.holds Try.pinned (OpenSpec.ofChange fnExactShapeBreaksSpec)

/-- ITS FALSE NEIGHBOUR: 'it returns false'. Refute it at one input. -/
def fnExactShapeBreaksWrong : ChangeSpec := { name := "fnExactShapeBreaks", fn := fun _ => fun
  | [d1, d2, d3] => { results := [.lit (.bool false)], args := [d1, d2, d3] }
  | _ => none }
def FnExactShapeBreaksWrongFalsely : Prop := fnExactShapeBreaksRow.holds Try.pinned (OpenSpec.ofChange fnExactShapeBreaksWrong)

/-- 'laws.FnShapeBreaks': WHATEVER THE INPUT: true; the input reads as it did. -/
def fnShapeBreaksSpec : ChangeSpec := { name := "fnShapeBreaks", fn := fun _ => fun
  | [d] => { results := [.lit (.bool true)], args := [d] }
  | _ => none }
def fnShapeBreaksRow : OpenClaim := { program := "ytlfhfbeacleggaa", sum := "d16526ddee6f34a60790e4ef5e97a27a473fbde62b85fa7852a1e2b3ba415763", func := "loop.example/typesetting/laws.FnShapeBreaks", spec := "fnShapeBreaks", unfollowed := true, recurses := true, apart := false }
def FnShapeBreaksSaid : Prop := fnShapeBreaksRow.holds Try.pinned (OpenSpec.ofChange fnShapeBreaksSpec)

/-- ITS FALSE NEIGHBOUR: 'it returns false'. Refute it at one input. -/
def fnShapeBreaksWrong : ChangeSpec := { name := "fnShapeBreaks", fn := fun _ => fun
  | [d] => { results := [.lit (.bool false)], args := [d] }
  | _ => none }
def FnShapeBreaksWrongFalsely : Prop := fnShapeBreaksRow.holds Try.pinned (OpenSpec.ofChange fnShapeBreaksWrong)

/-- 'laws.FnShapeBest': WHATEVER THE INPUT: true; the input reads as it did. -/
def fnShapeBestSpec : ChangeSpec := { name := "fnShapeBest", fn := fun _ => fun
  | [d] => { results := [.lit (.bool true)], args := [d] }
  | _ => none }
def fnShapeBestRow : OpenClaim := { program := "ytlfhfbeacleggaa", sum := "d16526ddee6f34a60790e4ef5e97a27a473fbde62b85fa7852a1e2b3ba415763", func := "loop.example/typesetting/laws.FnShapeBest", spec := "fnShapeBest", unfollowed := true, recurses := true, apart := false }
def FnShapeBestSaid : Prop := fnShapeBestRow.holds Try.pinned (OpenSpec.ofChange fnShapeBestSpec)

/-- ITS FALSE NEIGHBOUR: 'it returns false'. Refute it at one input. -/
def fnShapeBestWrong : ChangeSpec := { name := "fnShapeBest", fn := fun _ => fun
  | [d] => { results := [.lit (.bool false)], args := [d] }
  | _ => none }
def FnShapeBestWrongFalsely : Prop := fnShapeBestRow.holds Try.pinned (OpenSpec.ofChange fnShapeBestWrong)

/-- 'laws.FnShapeConstant': WHATEVER THE INPUT: true; the input reads as it did. -/
def fnShapeConstantSpec : ChangeSpec := { name := "fnShapeConstant", fn := fun _ => fun
  | [d] => { results := [.lit (.bool true)], args := [d] }
  | _ => none }
def fnShapeConstantRow : OpenClaim := { program := "ytlfhfbeacleggaa", sum := "d16526ddee6f34a60790e4ef5e97a27a473fbde62b85fa7852a1e2b3ba415763", func := "loop.example/typesetting/laws.FnShapeConstant", spec := "fnShapeConstant", unfollowed := true, recurses := true, apart := false }
def FnShapeConstantSaid : Prop := fnShapeConstantRow.holds Try.pinned (OpenSpec.ofChange fnShapeConstantSpec)

/-- ITS FALSE NEIGHBOUR: 'it returns false'. Refute it at one input. -/
def fnShapeConstantWrong : ChangeSpec := { name := "fnShapeConstant", fn := fun _ => fun
  | [d] => { results := [.lit (.bool false)], args := [d] }
  | _ => none }
def FnShapeConstantWrongFalsely : Prop := fnShapeConstantRow.holds Try.pinned (OpenSpec.ofChange fnShapeConstantWrong)

/-- 'laws.FnExactValidTable': WHATEVER THE INPUT: true; the input reads as it did. -/
def fnExactValidTableSpec : ChangeSpec := { name := "fnExactValidTable", fn := fun _ => fun
  | [d1, d2] => { results := [.lit (.bool true)], args := [d1, d2] }
  | _ => none }
def fnExactValidTableRow : OpenClaim := { program := "ytlfhfbeacleggaa", sum := "d16526ddee6f34a60790e4ef5e97a27a473fbde62b85fa7852a1e2b3ba415763", func := "loop.example/typesetting/laws.FnExactValidTable", spec := "fnExactValidTable", apart := false }
def FnExactValidTableSaid : Prop := fnExactValidTableRow.holds Try.pinned (OpenSpec.ofChange fnExactValidTableSpec)

/-- ITS FALSE NEIGHBOUR: 'it returns false'. Refute it at one input. -/
def fnExactValidTableWrong : ChangeSpec := { name := "fnExactValidTable", fn := fun _ => fun
  | [d1, d2] => { results := [.lit (.bool false)], args := [d1, d2] }
  | _ => none }
def FnExactValidTableWrongFalsely : Prop := fnExactValidTableRow.holds Try.pinned (OpenSpec.ofChange fnExactValidTableWrong)

/-- 'laws.FnExactColumnWidths': WHATEVER THE INPUT: true; the input reads as it did. -/
def fnExactColumnWidthsSpec : ChangeSpec := { name := "fnExactColumnWidths", fn := fun _ => fun
  | [d1, d2] => { results := [.lit (.bool true)], args := [d1, d2] }
  | _ => none }
def fnExactColumnWidthsRow : OpenClaim := { program := "ytlfhfbeacleggaa", sum := "d16526ddee6f34a60790e4ef5e97a27a473fbde62b85fa7852a1e2b3ba415763", func := "loop.example/typesetting/laws.FnExactColumnWidths", spec := "fnExactColumnWidths", unfollowed := true, recurses := true, apart := false }
def FnExactColumnWidthsSaid : Prop := fnExactColumnWidthsRow.holds Try.pinned (OpenSpec.ofChange fnExactColumnWidthsSpec)

/-- ITS FALSE NEIGHBOUR: 'it returns false'. Refute it at one input. -/
def fnExactColumnWidthsWrong : ChangeSpec := { name := "fnExactColumnWidths", fn := fun _ => fun
  | [d1, d2] => { results := [.lit (.bool false)], args := [d1, d2] }
  | _ => none }
def FnExactColumnWidthsWrongFalsely : Prop := fnExactColumnWidthsRow.holds Try.pinned (OpenSpec.ofChange fnExactColumnWidthsWrong)

/-- 'laws.FnExactFitsColumns': WHATEVER THE INPUT: true; the input reads as it did. -/
def fnExactFitsColumnsSpec : ChangeSpec := { name := "fnExactFitsColumns", fn := fun _ => fun
  | [d1, d2] => { results := [.lit (.bool true)], args := [d1, d2] }
  | _ => none }
def fnExactFitsColumnsRow : OpenClaim := { program := "ytlfhfbeacleggaa", sum := "d16526ddee6f34a60790e4ef5e97a27a473fbde62b85fa7852a1e2b3ba415763", func := "loop.example/typesetting/laws.FnExactFitsColumns", spec := "fnExactFitsColumns", unfollowed := true, recurses := true, apart := false }
def FnExactFitsColumnsSaid : Prop := fnExactFitsColumnsRow.holds Try.pinned (OpenSpec.ofChange fnExactFitsColumnsSpec)

/-- ITS FALSE NEIGHBOUR: 'it returns false'. Refute it at one input. -/
def fnExactFitsColumnsWrong : ChangeSpec := { name := "fnExactFitsColumns", fn := fun _ => fun
  | [d1, d2] => { results := [.lit (.bool false)], args := [d1, d2] }
  | _ => none }
def FnExactFitsColumnsWrongFalsely : Prop := fnExactFitsColumnsRow.holds Try.pinned (OpenSpec.ofChange fnExactFitsColumnsWrong)

/-- 'laws.FnColumnWidths': WHATEVER THE INPUT: true; the input reads as it did. -/
def fnColumnWidthsSpec : ChangeSpec := { name := "fnColumnWidths", fn := fun _ => fun
  | [d1, d2] => { results := [.lit (.bool true)], args := [d1, d2] }
  | _ => none }
def fnColumnWidthsRow : OpenClaim := { program := "ytlfhfbeacleggaa", sum := "d16526ddee6f34a60790e4ef5e97a27a473fbde62b85fa7852a1e2b3ba415763", func := "loop.example/typesetting/laws.FnColumnWidths", spec := "fnColumnWidths", unfollowed := true, recurses := true, apart := false }
def FnColumnWidthsSaid : Prop := fnColumnWidthsRow.holds Try.pinned (OpenSpec.ofChange fnColumnWidthsSpec)

/-- ITS FALSE NEIGHBOUR: 'it returns false'. Refute it at one input. -/
def fnColumnWidthsWrong : ChangeSpec := { name := "fnColumnWidths", fn := fun _ => fun
  | [d1, d2] => { results := [.lit (.bool false)], args := [d1, d2] }
  | _ => none }
def FnColumnWidthsWrongFalsely : Prop := fnColumnWidthsRow.holds Try.pinned (OpenSpec.ofChange fnColumnWidthsWrong)

/-- 'laws.FnColumnsMore': WHATEVER THE INPUT: true; the input reads as it did. -/
def fnColumnsMoreSpec : ChangeSpec := { name := "fnColumnsMore", fn := fun _ => fun
  | [d1, d2] => { results := [.lit (.bool true)], args := [d1, d2] }
  | _ => none }
def fnColumnsMoreRow : OpenClaim := { program := "ytlfhfbeacleggaa", sum := "d16526ddee6f34a60790e4ef5e97a27a473fbde62b85fa7852a1e2b3ba415763", func := "loop.example/typesetting/laws.FnColumnsMore", spec := "fnColumnsMore", unfollowed := true, recurses := true, apart := false }
def FnColumnsMoreSaid : Prop := fnColumnsMoreRow.holds Try.pinned (OpenSpec.ofChange fnColumnsMoreSpec)

/-- ITS FALSE NEIGHBOUR: 'it returns false'. Refute it at one input. -/
def fnColumnsMoreWrong : ChangeSpec := { name := "fnColumnsMore", fn := fun _ => fun
  | [d1, d2] => { results := [.lit (.bool false)], args := [d1, d2] }
  | _ => none }
def FnColumnsMoreWrongFalsely : Prop := fnColumnsMoreRow.holds Try.pinned (OpenSpec.ofChange fnColumnsMoreWrong)

/-- 'laws.FnFitsColumns': WHATEVER THE INPUT: true; the input reads as it did. -/
def fnFitsColumnsSpec : ChangeSpec := { name := "fnFitsColumns", fn := fun _ => fun
  | [d1, d2] => { results := [.lit (.bool true)], args := [d1, d2] }
  | _ => none }
def fnFitsColumnsRow : OpenClaim := { program := "ytlfhfbeacleggaa", sum := "d16526ddee6f34a60790e4ef5e97a27a473fbde62b85fa7852a1e2b3ba415763", func := "loop.example/typesetting/laws.FnFitsColumns", spec := "fnFitsColumns", unfollowed := true, recurses := true, apart := false }
def FnFitsColumnsSaid : Prop := fnFitsColumnsRow.holds Try.pinned (OpenSpec.ofChange fnFitsColumnsSpec)

/-- ITS FALSE NEIGHBOUR: 'it returns false'. Refute it at one input. -/
def fnFitsColumnsWrong : ChangeSpec := { name := "fnFitsColumns", fn := fun _ => fun
  | [d1, d2] => { results := [.lit (.bool false)], args := [d1, d2] }
  | _ => none }
def FnFitsColumnsWrongFalsely : Prop := fnFitsColumnsRow.holds Try.pinned (OpenSpec.ofChange fnFitsColumnsWrong)

/-- 'laws.FnColumnsPlain': WHATEVER THE INPUT: true; the input reads as it did. -/
def fnColumnsPlainSpec : ChangeSpec := { name := "fnColumnsPlain", fn := fun _ => fun
  | [d] => { results := [.lit (.bool true)], args := [d] }
  | _ => none }
def fnColumnsPlainRow : OpenClaim := { program := "ytlfhfbeacleggaa", sum := "d16526ddee6f34a60790e4ef5e97a27a473fbde62b85fa7852a1e2b3ba415763", func := "loop.example/typesetting/laws.FnColumnsPlain", spec := "fnColumnsPlain", unfollowed := true, recurses := true, apart := false }
def FnColumnsPlainSaid : Prop := fnColumnsPlainRow.holds Try.pinned (OpenSpec.ofChange fnColumnsPlainSpec)

/-- ITS FALSE NEIGHBOUR: 'it returns false'. Refute it at one input. -/
def fnColumnsPlainWrong : ChangeSpec := { name := "fnColumnsPlain", fn := fun _ => fun
  | [d] => { results := [.lit (.bool false)], args := [d] }
  | _ => none }
def FnColumnsPlainWrongFalsely : Prop := fnColumnsPlainRow.holds Try.pinned (OpenSpec.ofChange fnColumnsPlainWrong)

/- THE SECOND FORM. 'bulk': how many values and letters a reading holds, each counted each time it is reached (what is shared counts as often as it is met; a slice's spare places count too). A statement '..UptoSaid' is the law's where the arguments, and the package variables that the reading takes, are together of bulk at most 1048576: NARROWER than '..Said'. Prove '..Said' where nothing that the law and all that it calls make is longer than what came in: it says more and counts as full. Else prove '..UptoSaid'. A law counts once. -/
mutual
def uptoBulk {H : Type} : DataW H → Nat
  | .lit (.string bytes) => bytes.length + 1
  | .lit _ => 1
  | .nil => 1
  | .ptr d => uptoBulk d + 1
  | .slice elems spare => uptoBulkAll elems + uptoBulkAll spare + 1
  | .agg parts => uptoBulkAll parts + 1
  | .iface _ d => uptoBulk d + 1
  | .map entries => uptoBulkEntries entries + 1
  | .held _ => 1
def uptoBulkAll {H : Type} : List (DataW H) → Nat
  | [] => 0
  | d :: r => uptoBulk d + uptoBulkAll r
def uptoBulkEntries {H : Type} : List (Lit × DataW H) → Nat
  | [] => 0
  | x :: r => uptoBulkEntry x + uptoBulkEntries r
def uptoBulkEntry {H : Type} : Lit × DataW H → Nat
  | (.string bytes, d) => bytes.length + uptoBulk d + 1
  | (_, d) => uptoBulk d + 1
 end
def uptoSmall : (H : Type) → List (DataW H) → Bool := fun _ ds => decide (uptoBulkAll ds ≤ 1048576)
def OpenSpec.upto (s : _root_.Go.ChangeSpec) : _root_.Go.OpenSpec := { _root_.Go.OpenSpec.ofChange s with cond := some uptoSmall }

/-- 'laws.FnExactFillText', WHERE WHAT IT READS IS OF BULK AT MOST 1048576: true; the input reads as it did. -/
def fnExactFillTextUptoRow : OpenClaim := { program := "ytlfhfbeacleggaa", sum := "d16526ddee6f34a60790e4ef5e97a27a473fbde62b85fa7852a1e2b3ba415763", func := "loop.example/typesetting/laws.FnExactFillText", spec := "fnExactFillText", inPlace := ["internal/abi.NoEscape", "internal/bytealg.MakeNoZero"], unfollowed := true, recurses := true, apart := false, narrowed := true }
def FnExactFillTextUptoSaid : Prop := fnExactFillTextUptoRow.holds Try.pinned (OpenSpec.upto fnExactFillTextSpec)

/-- 'laws.FnFillText', WHERE WHAT IT READS IS OF BULK AT MOST 1048576: true; the input reads as it did. -/
def fnFillTextUptoRow : OpenClaim := { program := "ytlfhfbeacleggaa", sum := "d16526ddee6f34a60790e4ef5e97a27a473fbde62b85fa7852a1e2b3ba415763", func := "loop.example/typesetting/laws.FnFillText", spec := "fnFillText", inPlace := ["internal/abi.NoEscape", "internal/bytealg.MakeNoZero"], unfollowed := true, recurses := true, apart := false, narrowed := true }
def FnFillTextUptoSaid : Prop := fnFillTextUptoRow.holds Try.pinned (OpenSpec.upto fnFillTextSpec)

/-- 'laws.FnFillLast', WHERE WHAT IT READS IS OF BULK AT MOST 1048576: true; the input reads as it did. -/
def fnFillLastUptoRow : OpenClaim := { program := "ytlfhfbeacleggaa", sum := "d16526ddee6f34a60790e4ef5e97a27a473fbde62b85fa7852a1e2b3ba415763", func := "loop.example/typesetting/laws.FnFillLast", spec := "fnFillLast", inPlace := ["internal/abi.NoEscape", "internal/bytealg.MakeNoZero"], unfollowed := true, recurses := true, apart := false, narrowed := true }
def FnFillLastUptoSaid : Prop := fnFillLastUptoRow.holds Try.pinned (OpenSpec.upto fnFillLastSpec)

/-- 'laws.FnExactTextLines', WHERE WHAT IT READS IS OF BULK AT MOST 1048576: true; the input reads as it did. -/
def fnExactTextLinesUptoRow : OpenClaim := { program := "ytlfhfbeacleggaa", sum := "d16526ddee6f34a60790e4ef5e97a27a473fbde62b85fa7852a1e2b3ba415763", func := "loop.example/typesetting/laws.FnExactTextLines", spec := "fnExactTextLines", unfollowed := true, recurses := true, apart := false, narrowed := true }
def FnExactTextLinesUptoSaid : Prop := fnExactTextLinesUptoRow.holds Try.pinned (OpenSpec.upto fnExactTextLinesSpec)

/-- 'laws.FnTextLines', WHERE WHAT IT READS IS OF BULK AT MOST 1048576: true; the input reads as it did. -/
def fnTextLinesUptoRow : OpenClaim := { program := "ytlfhfbeacleggaa", sum := "d16526ddee6f34a60790e4ef5e97a27a473fbde62b85fa7852a1e2b3ba415763", func := "loop.example/typesetting/laws.FnTextLines", spec := "fnTextLines", unfollowed := true, recurses := true, apart := false, narrowed := true }
def FnTextLinesUptoSaid : Prop := fnTextLinesUptoRow.holds Try.pinned (OpenSpec.upto fnTextLinesSpec)

/-- 'laws.FnWidowPenalties', WHERE WHAT IT READS IS OF BULK AT MOST 1048576: true; the input reads as it did. -/
def fnWidowPenaltiesUptoRow : OpenClaim := { program := "ytlfhfbeacleggaa", sum := "d16526ddee6f34a60790e4ef5e97a27a473fbde62b85fa7852a1e2b3ba415763", func := "loop.example/typesetting/laws.FnWidowPenalties", spec := "fnWidowPenalties", unfollowed := true, recurses := true, apart := false, narrowed := true }
def FnWidowPenaltiesUptoSaid : Prop := fnWidowPenaltiesUptoRow.holds Try.pinned (OpenSpec.upto fnWidowPenaltiesSpec)

/-- 'laws.FnExactShapeBreaks', WHERE WHAT IT READS IS OF BULK AT MOST 1048576: true; the input reads as it did. -/
def fnExactShapeBreaksUptoRow : OpenClaim := { program := "ytlfhfbeacleggaa", sum := "d16526ddee6f34a60790e4ef5e97a27a473fbde62b85fa7852a1e2b3ba415763", func := "loop.example/typesetting/laws.FnExactShapeBreaks", spec := "fnExactShapeBreaks", unfollowed := true, recurses := true, apart := false, narrowed := true }
def FnExactShapeBreaksUptoSaid : Prop := fnExactShapeBreaksUptoRow.holds Try.pinned (OpenSpec.upto fnExactShapeBreaksSpec)

/-- 'laws.FnShapeBreaks', WHERE WHAT IT READS IS OF BULK AT MOST 1048576: true; the input reads as it did. -/
def fnShapeBreaksUptoRow : OpenClaim := { program := "ytlfhfbeacleggaa", sum := "d16526ddee6f34a60790e4ef5e97a27a473fbde62b85fa7852a1e2b3ba415763", func := "loop.example/typesetting/laws.FnShapeBreaks", spec := "fnShapeBreaks", unfollowed := true, recurses := true, apart := false, narrowed := true }
def FnShapeBreaksUptoSaid : Prop := fnShapeBreaksUptoRow.holds Try.pinned (OpenSpec.upto fnShapeBreaksSpec)

/-- 'laws.FnShapeBest', WHERE WHAT IT READS IS OF BULK AT MOST 1048576: true; the input reads as it did. -/
def fnShapeBestUptoRow : OpenClaim := { program := "ytlfhfbeacleggaa", sum := "d16526ddee6f34a60790e4ef5e97a27a473fbde62b85fa7852a1e2b3ba415763", func := "loop.example/typesetting/laws.FnShapeBest", spec := "fnShapeBest", unfollowed := true, recurses := true, apart := false, narrowed := true }
def FnShapeBestUptoSaid : Prop := fnShapeBestUptoRow.holds Try.pinned (OpenSpec.upto fnShapeBestSpec)

/-- 'laws.FnShapeConstant', WHERE WHAT IT READS IS OF BULK AT MOST 1048576: true; the input reads as it did. -/
def fnShapeConstantUptoRow : OpenClaim := { program := "ytlfhfbeacleggaa", sum := "d16526ddee6f34a60790e4ef5e97a27a473fbde62b85fa7852a1e2b3ba415763", func := "loop.example/typesetting/laws.FnShapeConstant", spec := "fnShapeConstant", unfollowed := true, recurses := true, apart := false, narrowed := true }
def FnShapeConstantUptoSaid : Prop := fnShapeConstantUptoRow.holds Try.pinned (OpenSpec.upto fnShapeConstantSpec)

/-- 'laws.FnExactValidTable', WHERE WHAT IT READS IS OF BULK AT MOST 1048576: true; the input reads as it did. -/
def fnExactValidTableUptoRow : OpenClaim := { program := "ytlfhfbeacleggaa", sum := "d16526ddee6f34a60790e4ef5e97a27a473fbde62b85fa7852a1e2b3ba415763", func := "loop.example/typesetting/laws.FnExactValidTable", spec := "fnExactValidTable", apart := false, narrowed := true }
def FnExactValidTableUptoSaid : Prop := fnExactValidTableUptoRow.holds Try.pinned (OpenSpec.upto fnExactValidTableSpec)

/-- 'laws.FnExactColumnWidths', WHERE WHAT IT READS IS OF BULK AT MOST 1048576: true; the input reads as it did. -/
def fnExactColumnWidthsUptoRow : OpenClaim := { program := "ytlfhfbeacleggaa", sum := "d16526ddee6f34a60790e4ef5e97a27a473fbde62b85fa7852a1e2b3ba415763", func := "loop.example/typesetting/laws.FnExactColumnWidths", spec := "fnExactColumnWidths", unfollowed := true, recurses := true, apart := false, narrowed := true }
def FnExactColumnWidthsUptoSaid : Prop := fnExactColumnWidthsUptoRow.holds Try.pinned (OpenSpec.upto fnExactColumnWidthsSpec)

/-- 'laws.FnExactFitsColumns', WHERE WHAT IT READS IS OF BULK AT MOST 1048576: true; the input reads as it did. -/
def fnExactFitsColumnsUptoRow : OpenClaim := { program := "ytlfhfbeacleggaa", sum := "d16526ddee6f34a60790e4ef5e97a27a473fbde62b85fa7852a1e2b3ba415763", func := "loop.example/typesetting/laws.FnExactFitsColumns", spec := "fnExactFitsColumns", unfollowed := true, recurses := true, apart := false, narrowed := true }
def FnExactFitsColumnsUptoSaid : Prop := fnExactFitsColumnsUptoRow.holds Try.pinned (OpenSpec.upto fnExactFitsColumnsSpec)

/-- 'laws.FnColumnWidths', WHERE WHAT IT READS IS OF BULK AT MOST 1048576: true; the input reads as it did. -/
def fnColumnWidthsUptoRow : OpenClaim := { program := "ytlfhfbeacleggaa", sum := "d16526ddee6f34a60790e4ef5e97a27a473fbde62b85fa7852a1e2b3ba415763", func := "loop.example/typesetting/laws.FnColumnWidths", spec := "fnColumnWidths", unfollowed := true, recurses := true, apart := false, narrowed := true }
def FnColumnWidthsUptoSaid : Prop := fnColumnWidthsUptoRow.holds Try.pinned (OpenSpec.upto fnColumnWidthsSpec)

/-- 'laws.FnColumnsMore', WHERE WHAT IT READS IS OF BULK AT MOST 1048576: true; the input reads as it did. -/
def fnColumnsMoreUptoRow : OpenClaim := { program := "ytlfhfbeacleggaa", sum := "d16526ddee6f34a60790e4ef5e97a27a473fbde62b85fa7852a1e2b3ba415763", func := "loop.example/typesetting/laws.FnColumnsMore", spec := "fnColumnsMore", unfollowed := true, recurses := true, apart := false, narrowed := true }
def FnColumnsMoreUptoSaid : Prop := fnColumnsMoreUptoRow.holds Try.pinned (OpenSpec.upto fnColumnsMoreSpec)

/-- 'laws.FnFitsColumns', WHERE WHAT IT READS IS OF BULK AT MOST 1048576: true; the input reads as it did. -/
def fnFitsColumnsUptoRow : OpenClaim := { program := "ytlfhfbeacleggaa", sum := "d16526ddee6f34a60790e4ef5e97a27a473fbde62b85fa7852a1e2b3ba415763", func := "loop.example/typesetting/laws.FnFitsColumns", spec := "fnFitsColumns", unfollowed := true, recurses := true, apart := false, narrowed := true }
def FnFitsColumnsUptoSaid : Prop := fnFitsColumnsUptoRow.holds Try.pinned (OpenSpec.upto fnFitsColumnsSpec)

/-- 'laws.FnColumnsPlain', WHERE WHAT IT READS IS OF BULK AT MOST 1048576: true; the input reads as it did. -/
def fnColumnsPlainUptoRow : OpenClaim := { program := "ytlfhfbeacleggaa", sum := "d16526ddee6f34a60790e4ef5e97a27a473fbde62b85fa7852a1e2b3ba415763", func := "loop.example/typesetting/laws.FnColumnsPlain", spec := "fnColumnsPlain", unfollowed := true, recurses := true, apart := false, narrowed := true }
def FnColumnsPlainUptoSaid : Prop := fnColumnsPlainUptoRow.holds Try.pinned (OpenSpec.upto fnColumnsPlainSpec)

end Rows
end Go.Proofs.Ytlfhfbeacleggaa
