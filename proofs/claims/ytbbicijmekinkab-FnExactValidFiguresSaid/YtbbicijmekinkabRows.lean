/-
  No cell of these rows narrows 'for every input' (looked for: loops, veiled, ifaces, maps, wideKeys, modest, calm, conditions, laid).
  DERIVED. THE GIVEN ROWS OF THIS SEAT. 12 by the template 'for every input the law returns true; each argument reads behind the call as it read before'; 0 by the template 'total and deterministic' (their statements: YtbbicijmekinkabTotals.lean).
  GIVEN WITH THE SEED: the statements are not yours to turn. If you find one false, say at which input.
  Laid BY PROGRAM, IN A SANDBOX (cutbox-rows.mjs): the forced cells as the released guide's own fill.sh prints them over the translation 9d8119665a9f230f… (all of the seat's roots in one cut). By AI agents, Wed Nov 11 2026. No macro, syntax, notation, axiom, sorry.
-/
import Derived.Test.YtbbicijmekinkabChecked
import GoSem.Claim
import GoSem.ClaimJoined
import GoSem.ClaimMapViews
import Derived.JoinedTies
import Derived.KernelRfl
namespace Go.Proofs.Ytbbicijmekinkab
/- THE CELL 'sum', in the pinned program and in every row, IS THE sha256 OF THE DUMP (.gsa) THAT YtbbicijmekinkabProg.lean LOADS. Nothing in Lean hashes anything: it is a label: what it is worth is what the hold of that sum in a sandbox is worth. -/
noncomputable def Try.pinned : Pinned := { name := "ytbbicijmekinkab", sum := "9d8119665a9f230f4252b625aaf8a66fa0580a1d475c2ca295787b79e9b27c24", checked := Try.checked }
namespace Rows
def none {H : Type} : Left H := { results := [], args := [] }

/-- 'laws.FnExactPageOf': WHATEVER THE INPUT: true; the input reads as it did. -/
def fnExactPageOfSpec : ChangeSpec := { name := "fnExactPageOf", fn := fun _ => fun
  | [d1, d2] => { results := [.lit (.bool true)], args := [d1, d2] }
  | _ => none }
def fnExactPageOfRow : OpenClaim := { program := "ytbbicijmekinkab", sum := "9d8119665a9f230f4252b625aaf8a66fa0580a1d475c2ca295787b79e9b27c24", func := "loop.example/typesetting/laws.FnExactPageOf", spec := "fnExactPageOf", apart := false }
def FnExactPageOfSaid : Prop := fnExactPageOfRow.holds Try.pinned (OpenSpec.ofChange fnExactPageOfSpec)

/-- ITS FALSE NEIGHBOUR: 'it returns false'. Refute it at one input. -/
def fnExactPageOfWrong : ChangeSpec := { name := "fnExactPageOf", fn := fun _ => fun
  | [d1, d2] => { results := [.lit (.bool false)], args := [d1, d2] }
  | _ => none }
def FnExactPageOfWrongFalsely : Prop := fnExactPageOfRow.holds Try.pinned (OpenSpec.ofChange fnExactPageOfWrong)

/-- 'laws.FnPageOf': WHATEVER THE INPUT: true; the input reads as it did. -/
def fnPageOfSpec : ChangeSpec := { name := "fnPageOf", fn := fun _ => fun
  | [d] => { results := [.lit (.bool true)], args := [d] }
  | _ => none }
def fnPageOfRow : OpenClaim := { program := "ytbbicijmekinkab", sum := "9d8119665a9f230f4252b625aaf8a66fa0580a1d475c2ca295787b79e9b27c24", func := "loop.example/typesetting/laws.FnPageOf", spec := "fnPageOf", apart := false }
def FnPageOfSaid : Prop := fnPageOfRow.holds Try.pinned (OpenSpec.ofChange fnPageOfSpec)

/-- ITS FALSE NEIGHBOUR: 'it returns false'. Refute it at one input. -/
def fnPageOfWrong : ChangeSpec := { name := "fnPageOf", fn := fun _ => fun
  | [d] => { results := [.lit (.bool false)], args := [d] }
  | _ => none }
def FnPageOfWrongFalsely : Prop := fnPageOfRow.holds Try.pinned (OpenSpec.ofChange fnPageOfWrong)

/-- 'laws.FnExactValidLines': WHATEVER THE INPUT: true; the input reads as it did. -/
def fnExactValidLinesSpec : ChangeSpec := { name := "fnExactValidLines", fn := fun _ => fun
  | [d] => { results := [.lit (.bool true)], args := [d] }
  | _ => none }
def fnExactValidLinesRow : OpenClaim := { program := "ytbbicijmekinkab", sum := "9d8119665a9f230f4252b625aaf8a66fa0580a1d475c2ca295787b79e9b27c24", func := "loop.example/typesetting/laws.FnExactValidLines", spec := "fnExactValidLines", apart := false }
def FnExactValidLinesSaid : Prop := fnExactValidLinesRow.holds Try.pinned (OpenSpec.ofChange fnExactValidLinesSpec)

/-- ITS FALSE NEIGHBOUR: 'it returns false'. Refute it at one input. -/
def fnExactValidLinesWrong : ChangeSpec := { name := "fnExactValidLines", fn := fun _ => fun
  | [d] => { results := [.lit (.bool false)], args := [d] }
  | _ => none }
def FnExactValidLinesWrongFalsely : Prop := fnExactValidLinesRow.holds Try.pinned (OpenSpec.ofChange fnExactValidLinesWrong)

/-- 'laws.FnExactPageHeight': WHATEVER THE INPUT: true; the input reads as it did. -/
def fnExactPageHeightSpec : ChangeSpec := { name := "fnExactPageHeight", fn := fun _ => fun
  | [d1, d2, d3] => { results := [.lit (.bool true)], args := [d1, d2, d3] }
  | _ => none }
def fnExactPageHeightRow : OpenClaim := { program := "ytbbicijmekinkab", sum := "9d8119665a9f230f4252b625aaf8a66fa0580a1d475c2ca295787b79e9b27c24", func := "loop.example/typesetting/laws.FnExactPageHeight", spec := "fnExactPageHeight", apart := false }
def FnExactPageHeightSaid : Prop := fnExactPageHeightRow.holds Try.pinned (OpenSpec.ofChange fnExactPageHeightSpec)

/-- ITS FALSE NEIGHBOUR: 'it returns false'. Refute it at one input. -/
def fnExactPageHeightWrong : ChangeSpec := { name := "fnExactPageHeight", fn := fun _ => fun
  | [d1, d2, d3] => { results := [.lit (.bool false)], args := [d1, d2, d3] }
  | _ => none }
def FnExactPageHeightWrongFalsely : Prop := fnExactPageHeightRow.holds Try.pinned (OpenSpec.ofChange fnExactPageHeightWrong)

/-- 'laws.FnPageHeight': WHATEVER THE INPUT: true; the input reads as it did. -/
def fnPageHeightSpec : ChangeSpec := { name := "fnPageHeight", fn := fun _ => fun
  | [d] => { results := [.lit (.bool true)], args := [d] }
  | _ => none }
def fnPageHeightRow : OpenClaim := { program := "ytbbicijmekinkab", sum := "9d8119665a9f230f4252b625aaf8a66fa0580a1d475c2ca295787b79e9b27c24", func := "loop.example/typesetting/laws.FnPageHeight", spec := "fnPageHeight", apart := false }
def FnPageHeightSaid : Prop := fnPageHeightRow.holds Try.pinned (OpenSpec.ofChange fnPageHeightSpec)

/-- ITS FALSE NEIGHBOUR: 'it returns false'. Refute it at one input. -/
def fnPageHeightWrong : ChangeSpec := { name := "fnPageHeight", fn := fun _ => fun
  | [d] => { results := [.lit (.bool false)], args := [d] }
  | _ => none }
def FnPageHeightWrongFalsely : Prop := fnPageHeightRow.holds Try.pinned (OpenSpec.ofChange fnPageHeightWrong)

/-- 'laws.FnExactValidFigures': WHATEVER THE INPUT: true; the input reads as it did. -/
def fnExactValidFiguresSpec : ChangeSpec := { name := "fnExactValidFigures", fn := fun _ => fun
  | [d] => { results := [.lit (.bool true)], args := [d] }
  | _ => none }
def fnExactValidFiguresRow : OpenClaim := { program := "ytbbicijmekinkab", sum := "9d8119665a9f230f4252b625aaf8a66fa0580a1d475c2ca295787b79e9b27c24", func := "loop.example/typesetting/laws.FnExactValidFigures", spec := "fnExactValidFigures", apart := false }
def FnExactValidFiguresSaid : Prop := fnExactValidFiguresRow.holds Try.pinned (OpenSpec.ofChange fnExactValidFiguresSpec)

/-- ITS FALSE NEIGHBOUR: 'it returns false'. Refute it at one input. -/
def fnExactValidFiguresWrong : ChangeSpec := { name := "fnExactValidFigures", fn := fun _ => fun
  | [d] => { results := [.lit (.bool false)], args := [d] }
  | _ => none }
def FnExactValidFiguresWrongFalsely : Prop := fnExactValidFiguresRow.holds Try.pinned (OpenSpec.ofChange fnExactValidFiguresWrong)

/-- 'laws.FnExactCheckFigures': WHATEVER THE INPUT: true; the input reads as it did. -/
def fnExactCheckFiguresSpec : ChangeSpec := { name := "fnExactCheckFigures", fn := fun _ => fun
  | [d1, d2, d3] => { results := [.lit (.bool true)], args := [d1, d2, d3] }
  | _ => none }
def fnExactCheckFiguresRow : OpenClaim := { program := "ytbbicijmekinkab", sum := "9d8119665a9f230f4252b625aaf8a66fa0580a1d475c2ca295787b79e9b27c24", func := "loop.example/typesetting/laws.FnExactCheckFigures", spec := "fnExactCheckFigures", apart := false }
def FnExactCheckFiguresSaid : Prop := fnExactCheckFiguresRow.holds Try.pinned (OpenSpec.ofChange fnExactCheckFiguresSpec)

/-- ITS FALSE NEIGHBOUR: 'it returns false'. Refute it at one input. -/
def fnExactCheckFiguresWrong : ChangeSpec := { name := "fnExactCheckFigures", fn := fun _ => fun
  | [d1, d2, d3] => { results := [.lit (.bool false)], args := [d1, d2, d3] }
  | _ => none }
def FnExactCheckFiguresWrongFalsely : Prop := fnExactCheckFiguresRow.holds Try.pinned (OpenSpec.ofChange fnExactCheckFiguresWrong)

/-- 'laws.FnExactTotalDelay': WHATEVER THE INPUT: true; the input reads as it did. -/
def fnExactTotalDelaySpec : ChangeSpec := { name := "fnExactTotalDelay", fn := fun _ => fun
  | [d1, d2, d3] => { results := [.lit (.bool true)], args := [d1, d2, d3] }
  | _ => none }
def fnExactTotalDelayRow : OpenClaim := { program := "ytbbicijmekinkab", sum := "9d8119665a9f230f4252b625aaf8a66fa0580a1d475c2ca295787b79e9b27c24", func := "loop.example/typesetting/laws.FnExactTotalDelay", spec := "fnExactTotalDelay", apart := false }
def FnExactTotalDelaySaid : Prop := fnExactTotalDelayRow.holds Try.pinned (OpenSpec.ofChange fnExactTotalDelaySpec)

/-- ITS FALSE NEIGHBOUR: 'it returns false'. Refute it at one input. -/
def fnExactTotalDelayWrong : ChangeSpec := { name := "fnExactTotalDelay", fn := fun _ => fun
  | [d1, d2, d3] => { results := [.lit (.bool false)], args := [d1, d2, d3] }
  | _ => none }
def FnExactTotalDelayWrongFalsely : Prop := fnExactTotalDelayRow.holds Try.pinned (OpenSpec.ofChange fnExactTotalDelayWrong)

/-- 'laws.FnExactPlaceFigures': WHATEVER THE INPUT: true; the input reads as it did. -/
def fnExactPlaceFiguresSpec : ChangeSpec := { name := "fnExactPlaceFigures", fn := fun _ => fun
  | [d1, d2] => { results := [.lit (.bool true)], args := [d1, d2] }
  | _ => none }
def fnExactPlaceFiguresRow : OpenClaim := { program := "ytbbicijmekinkab", sum := "9d8119665a9f230f4252b625aaf8a66fa0580a1d475c2ca295787b79e9b27c24", func := "loop.example/typesetting/laws.FnExactPlaceFigures", spec := "fnExactPlaceFigures", apart := false }
def FnExactPlaceFiguresSaid : Prop := fnExactPlaceFiguresRow.holds Try.pinned (OpenSpec.ofChange fnExactPlaceFiguresSpec)

/-- ITS FALSE NEIGHBOUR: 'it returns false'. Refute it at one input. -/
def fnExactPlaceFiguresWrong : ChangeSpec := { name := "fnExactPlaceFigures", fn := fun _ => fun
  | [d1, d2] => { results := [.lit (.bool false)], args := [d1, d2] }
  | _ => none }
def FnExactPlaceFiguresWrongFalsely : Prop := fnExactPlaceFiguresRow.holds Try.pinned (OpenSpec.ofChange fnExactPlaceFiguresWrong)

/-- 'laws.FnExactStretchColumns': WHATEVER THE INPUT: true; the input reads as it did. -/
def fnExactStretchColumnsSpec : ChangeSpec := { name := "fnExactStretchColumns", fn := fun _ => fun
  | [d1, d2] => { results := [.lit (.bool true)], args := [d1, d2] }
  | _ => none }
def fnExactStretchColumnsRow : OpenClaim := { program := "ytbbicijmekinkab", sum := "9d8119665a9f230f4252b625aaf8a66fa0580a1d475c2ca295787b79e9b27c24", func := "loop.example/typesetting/laws.FnExactStretchColumns", spec := "fnExactStretchColumns", apart := false }
def FnExactStretchColumnsSaid : Prop := fnExactStretchColumnsRow.holds Try.pinned (OpenSpec.ofChange fnExactStretchColumnsSpec)

/-- ITS FALSE NEIGHBOUR: 'it returns false'. Refute it at one input. -/
def fnExactStretchColumnsWrong : ChangeSpec := { name := "fnExactStretchColumns", fn := fun _ => fun
  | [d1, d2] => { results := [.lit (.bool false)], args := [d1, d2] }
  | _ => none }
def FnExactStretchColumnsWrongFalsely : Prop := fnExactStretchColumnsRow.holds Try.pinned (OpenSpec.ofChange fnExactStretchColumnsWrong)

/-- 'laws.FnStretchColumns': WHATEVER THE INPUT: true; the input reads as it did. -/
def fnStretchColumnsSpec : ChangeSpec := { name := "fnStretchColumns", fn := fun _ => fun
  | [d] => { results := [.lit (.bool true)], args := [d] }
  | _ => none }
def fnStretchColumnsRow : OpenClaim := { program := "ytbbicijmekinkab", sum := "9d8119665a9f230f4252b625aaf8a66fa0580a1d475c2ca295787b79e9b27c24", func := "loop.example/typesetting/laws.FnStretchColumns", spec := "fnStretchColumns", apart := false }
def FnStretchColumnsSaid : Prop := fnStretchColumnsRow.holds Try.pinned (OpenSpec.ofChange fnStretchColumnsSpec)

/-- ITS FALSE NEIGHBOUR: 'it returns false'. Refute it at one input. -/
def fnStretchColumnsWrong : ChangeSpec := { name := "fnStretchColumns", fn := fun _ => fun
  | [d] => { results := [.lit (.bool false)], args := [d] }
  | _ => none }
def FnStretchColumnsWrongFalsely : Prop := fnStretchColumnsRow.holds Try.pinned (OpenSpec.ofChange fnStretchColumnsWrong)

/-- 'laws.FnExactCountWidows': WHATEVER THE INPUT: true; the input reads as it did. -/
def fnExactCountWidowsSpec : ChangeSpec := { name := "fnExactCountWidows", fn := fun _ => fun
  | [d1, d2] => { results := [.lit (.bool true)], args := [d1, d2] }
  | _ => none }
def fnExactCountWidowsRow : OpenClaim := { program := "ytbbicijmekinkab", sum := "9d8119665a9f230f4252b625aaf8a66fa0580a1d475c2ca295787b79e9b27c24", func := "loop.example/typesetting/laws.FnExactCountWidows", spec := "fnExactCountWidows", unfollowed := true, recurses := true, apart := false }
def FnExactCountWidowsSaid : Prop := fnExactCountWidowsRow.holds Try.pinned (OpenSpec.ofChange fnExactCountWidowsSpec)

/-- ITS FALSE NEIGHBOUR: 'it returns false'. Refute it at one input. -/
def fnExactCountWidowsWrong : ChangeSpec := { name := "fnExactCountWidows", fn := fun _ => fun
  | [d1, d2] => { results := [.lit (.bool false)], args := [d1, d2] }
  | _ => none }
def FnExactCountWidowsWrongFalsely : Prop := fnExactCountWidowsRow.holds Try.pinned (OpenSpec.ofChange fnExactCountWidowsWrong)

/- THE SECOND FORM. 'bulk': how many values and letters a reading holds, each counted each time it is reached (what is shared counts as often as it is met; a slice's spare places count too). A statement '..UptoSaid' is the law's where the arguments, and the package variables that the reading takes, are together of bulk at most 1048576: NARROWER than '..Said'. Prove '..Said' where nothing that the law and all that it calls make is longer than what came in: it says more and counts as full. Else prove '..UptoSaid'. A law counts once. -/
mutual
def uptoBulk {H : Type} : DataW H → Nat
  | .lit (.string bytes) => bytes.length + 1
  | .lit _ => 1
  | .nil => 1
  | .ptr d => uptoBulk d + 1
  | .slice elems spare => uptoBulkAll elems + uptoBulkAll spare + 1
  | .agg parts => uptoBulkAll parts + 1
  | .iface _ d => uptoBulk d + 1
  | .map entries => uptoBulkEntries entries + 1
  | .held _ => 1
def uptoBulkAll {H : Type} : List (DataW H) → Nat
  | [] => 0
  | d :: r => uptoBulk d + uptoBulkAll r
def uptoBulkEntries {H : Type} : List (Lit × DataW H) → Nat
  | [] => 0
  | x :: r => uptoBulkEntry x + uptoBulkEntries r
def uptoBulkEntry {H : Type} : Lit × DataW H → Nat
  | (.string bytes, d) => bytes.length + uptoBulk d + 1
  | (_, d) => uptoBulk d + 1
 end
def uptoSmall : (H : Type) → List (DataW H) → Bool := fun _ ds => decide (uptoBulkAll ds ≤ 1048576)
def OpenSpec.upto (s : _root_.Go.ChangeSpec) : _root_.Go.OpenSpec := { _root_.Go.OpenSpec.ofChange s with cond := some uptoSmall }

/-- 'laws.FnExactPageOf', WHERE WHAT IT READS IS OF BULK AT MOST 1048576: true; the input reads as it did. -/
def fnExactPageOfUptoRow : OpenClaim := { program := "ytbbicijmekinkab", sum := "9d8119665a9f230f4252b625aaf8a66fa0580a1d475c2ca295787b79e9b27c24", func := "loop.example/typesetting/laws.FnExactPageOf", spec := "fnExactPageOf", apart := false, narrowed := true }
def FnExactPageOfUptoSaid : Prop := fnExactPageOfUptoRow.holds Try.pinned (OpenSpec.upto fnExactPageOfSpec)

/-- 'laws.FnPageOf', WHERE WHAT IT READS IS OF BULK AT MOST 1048576: true; the input reads as it did. -/
def fnPageOfUptoRow : OpenClaim := { program := "ytbbicijmekinkab", sum := "9d8119665a9f230f4252b625aaf8a66fa0580a1d475c2ca295787b79e9b27c24", func := "loop.example/typesetting/laws.FnPageOf", spec := "fnPageOf", apart := false, narrowed := true }
def FnPageOfUptoSaid : Prop := fnPageOfUptoRow.holds Try.pinned (OpenSpec.upto fnPageOfSpec)

/-- 'laws.FnExactValidLines', WHERE WHAT IT READS IS OF BULK AT MOST 1048576: true; the input reads as it did. -/
def fnExactValidLinesUptoRow : OpenClaim := { program := "ytbbicijmekinkab", sum := "9d8119665a9f230f4252b625aaf8a66fa0580a1d475c2ca295787b79e9b27c24", func := "loop.example/typesetting/laws.FnExactValidLines", spec := "fnExactValidLines", apart := false, narrowed := true }
def FnExactValidLinesUptoSaid : Prop := fnExactValidLinesUptoRow.holds Try.pinned (OpenSpec.upto fnExactValidLinesSpec)

/-- 'laws.FnExactPageHeight', WHERE WHAT IT READS IS OF BULK AT MOST 1048576: true; the input reads as it did. -/
def fnExactPageHeightUptoRow : OpenClaim := { program := "ytbbicijmekinkab", sum := "9d8119665a9f230f4252b625aaf8a66fa0580a1d475c2ca295787b79e9b27c24", func := "loop.example/typesetting/laws.FnExactPageHeight", spec := "fnExactPageHeight", apart := false, narrowed := true }
def FnExactPageHeightUptoSaid : Prop := fnExactPageHeightUptoRow.holds Try.pinned (OpenSpec.upto fnExactPageHeightSpec)

/-- 'laws.FnPageHeight', WHERE WHAT IT READS IS OF BULK AT MOST 1048576: true; the input reads as it did. -/
def fnPageHeightUptoRow : OpenClaim := { program := "ytbbicijmekinkab", sum := "9d8119665a9f230f4252b625aaf8a66fa0580a1d475c2ca295787b79e9b27c24", func := "loop.example/typesetting/laws.FnPageHeight", spec := "fnPageHeight", apart := false, narrowed := true }
def FnPageHeightUptoSaid : Prop := fnPageHeightUptoRow.holds Try.pinned (OpenSpec.upto fnPageHeightSpec)

/-- 'laws.FnExactValidFigures', WHERE WHAT IT READS IS OF BULK AT MOST 1048576: true; the input reads as it did. -/
def fnExactValidFiguresUptoRow : OpenClaim := { program := "ytbbicijmekinkab", sum := "9d8119665a9f230f4252b625aaf8a66fa0580a1d475c2ca295787b79e9b27c24", func := "loop.example/typesetting/laws.FnExactValidFigures", spec := "fnExactValidFigures", apart := false, narrowed := true }
def FnExactValidFiguresUptoSaid : Prop := fnExactValidFiguresUptoRow.holds Try.pinned (OpenSpec.upto fnExactValidFiguresSpec)

/-- 'laws.FnExactCheckFigures', WHERE WHAT IT READS IS OF BULK AT MOST 1048576: true; the input reads as it did. -/
def fnExactCheckFiguresUptoRow : OpenClaim := { program := "ytbbicijmekinkab", sum := "9d8119665a9f230f4252b625aaf8a66fa0580a1d475c2ca295787b79e9b27c24", func := "loop.example/typesetting/laws.FnExactCheckFigures", spec := "fnExactCheckFigures", apart := false, narrowed := true }
def FnExactCheckFiguresUptoSaid : Prop := fnExactCheckFiguresUptoRow.holds Try.pinned (OpenSpec.upto fnExactCheckFiguresSpec)

/-- 'laws.FnExactTotalDelay', WHERE WHAT IT READS IS OF BULK AT MOST 1048576: true; the input reads as it did. -/
def fnExactTotalDelayUptoRow : OpenClaim := { program := "ytbbicijmekinkab", sum := "9d8119665a9f230f4252b625aaf8a66fa0580a1d475c2ca295787b79e9b27c24", func := "loop.example/typesetting/laws.FnExactTotalDelay", spec := "fnExactTotalDelay", apart := false, narrowed := true }
def FnExactTotalDelayUptoSaid : Prop := fnExactTotalDelayUptoRow.holds Try.pinned (OpenSpec.upto fnExactTotalDelaySpec)

/-- 'laws.FnExactPlaceFigures', WHERE WHAT IT READS IS OF BULK AT MOST 1048576: true; the input reads as it did. -/
def fnExactPlaceFiguresUptoRow : OpenClaim := { program := "ytbbicijmekinkab", sum := "9d8119665a9f230f4252b625aaf8a66fa0580a1d475c2ca295787b79e9b27c24", func := "loop.example/typesetting/laws.FnExactPlaceFigures", spec := "fnExactPlaceFigures", apart := false, narrowed := true }
def FnExactPlaceFiguresUptoSaid : Prop := fnExactPlaceFiguresUptoRow.holds Try.pinned (OpenSpec.upto fnExactPlaceFiguresSpec)

/-- 'laws.FnExactStretchColumns', WHERE WHAT IT READS IS OF BULK AT MOST 1048576: true; the input reads as it did. -/
def fnExactStretchColumnsUptoRow : OpenClaim := { program := "ytbbicijmekinkab", sum := "9d8119665a9f230f4252b625aaf8a66fa0580a1d475c2ca295787b79e9b27c24", func := "loop.example/typesetting/laws.FnExactStretchColumns", spec := "fnExactStretchColumns", apart := false, narrowed := true }
def FnExactStretchColumnsUptoSaid : Prop := fnExactStretchColumnsUptoRow.holds Try.pinned (OpenSpec.upto fnExactStretchColumnsSpec)

/-- 'laws.FnStretchColumns', WHERE WHAT IT READS IS OF BULK AT MOST 1048576: true; the input reads as it did. -/
def fnStretchColumnsUptoRow : OpenClaim := { program := "ytbbicijmekinkab", sum := "9d8119665a9f230f4252b625aaf8a66fa0580a1d475c2ca295787b79e9b27c24", func := "loop.example/typesetting/laws.FnStretchColumns", spec := "fnStretchColumns", apart := false, narrowed := true }
def FnStretchColumnsUptoSaid : Prop := fnStretchColumnsUptoRow.holds Try.pinned (OpenSpec.upto fnStretchColumnsSpec)

/-- 'laws.FnExactCountWidows', WHERE WHAT IT READS IS OF BULK AT MOST 1048576: true; the input reads as it did. -/
def fnExactCountWidowsUptoRow : OpenClaim := { program := "ytbbicijmekinkab", sum := "9d8119665a9f230f4252b625aaf8a66fa0580a1d475c2ca295787b79e9b27c24", func := "loop.example/typesetting/laws.FnExactCountWidows", spec := "fnExactCountWidows", unfollowed := true, recurses := true, apart := false, narrowed := true }
def FnExactCountWidowsUptoSaid : Prop := fnExactCountWidowsUptoRow.holds Try.pinned (OpenSpec.upto fnExactCountWidowsSpec)

end Rows
end Go.Proofs.Ytbbicijmekinkab
