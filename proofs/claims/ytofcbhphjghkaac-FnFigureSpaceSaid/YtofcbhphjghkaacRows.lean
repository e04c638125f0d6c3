/-
  No cell of these rows narrows 'for every input' (looked for: loops, veiled, ifaces, maps, wideKeys, modest, calm, conditions, laid).
  DERIVED. THE GIVEN ROWS OF THIS SEAT. 12 by the template 'for every input the law returns true; each argument reads behind the call as it read before'; 0 by the template 'total and deterministic' (their statements: YtofcbhphjghkaacTotals.lean).
  GIVEN WITH THE SEED: the statements are not yours to turn. If you find one false, say at which input.
  Laid BY PROGRAM, IN A SANDBOX (cutbox-rows.mjs): the forced cells as the released guide's own fill.sh prints them over the translation eb0ef62b16a9f7e0… (all of the seat's roots in one cut). By AI agents, Wed Nov 11 2026. No macro, syntax, notation, axiom, sorry.
-/
import Derived.Test.YtofcbhphjghkaacChecked
import GoSem.Claim
import GoSem.ClaimJoined
import GoSem.ClaimMapViews
import Derived.JoinedTies
import Derived.KernelRfl
namespace Go.Proofs.Ytofcbhphjghkaac
/- THE CELL 'sum', in the pinned program and in every row, IS THE sha256 OF THE DUMP (.gsa) THAT YtofcbhphjghkaacProg.lean LOADS. Nothing in Lean hashes anything: it is a label: what it is worth is what the hold of that sum in a sandbox is worth. -/
noncomputable def Try.pinned : Pinned := { name := "ytofcbhphjghkaac", sum := "eb0ef62b16a9f7e04c907d30d2821642f81b8637868ea2715971240b01e19872", checked := Try.checked }
namespace Rows
def none {H : Type} : Left H := { results := [], args := [] }

/-- 'laws.FnExactCheckFigures': WHATEVER THE INPUT: true; the input reads as it did. -/
def fnExactCheckFiguresSpec : ChangeSpec := { name := "fnExactCheckFigures", fn := fun _ => fun
  | [d1, d2, d3] => { results := [.lit (.bool true)], args := [d1, d2, d3] }
  | _ => none }
def fnExactCheckFiguresRow : OpenClaim := { program := "ytofcbhphjghkaac", sum := "eb0ef62b16a9f7e04c907d30d2821642f81b8637868ea2715971240b01e19872", func := "loop.example/typesetting/laws.FnExactCheckFigures", spec := "fnExactCheckFigures", apart := false }
def FnExactCheckFiguresSaid : Prop := fnExactCheckFiguresRow.holds Try.pinned (OpenSpec.ofChange fnExactCheckFiguresSpec)

/-- ITS FALSE NEIGHBOUR: 'it returns false'. Refute it at one input. -/
def fnExactCheckFiguresWrong : ChangeSpec := { name := "fnExactCheckFigures", fn := fun _ => fun
  | [d1, d2, d3] => { results := [.lit (.bool false)], args := [d1, d2, d3] }
  | _ => none }
def FnExactCheckFiguresWrongFalsely : Prop := fnExactCheckFiguresRow.holds Try.pinned (OpenSpec.ofChange fnExactCheckFiguresWrong)

/-- 'laws.FnExactTotalDelay': WHATEVER THE INPUT: true; the input reads as it did. -/
def fnExactTotalDelaySpec : ChangeSpec := { name := "fnExactTotalDelay", fn := fun _ => fun
  | [d1, d2, d3] => { results := [.lit (.bool true)], args := [d1, d2, d3] }
  | _ => none }
def fnExactTotalDelayRow : OpenClaim := { program := "ytofcbhphjghkaac", sum := "eb0ef62b16a9f7e04c907d30d2821642f81b8637868ea2715971240b01e19872", func := "loop.example/typesetting/laws.FnExactTotalDelay", spec := "fnExactTotalDelay", apart := false }
def FnExactTotalDelaySaid : Prop := fnExactTotalDelayRow.holds Try.pinned (OpenSpec.ofChange fnExactTotalDelaySpec)

/-- ITS FALSE NEIGHBOUR: 'it returns false'. Refute it at one input. -/
def fnExactTotalDelayWrong : ChangeSpec := { name := "fnExactTotalDelay", fn := fun _ => fun
  | [d1, d2, d3] => { results := [.lit (.bool false)], args := [d1, d2, d3] }
  | _ => none }
def FnExactTotalDelayWrongFalsely : Prop := fnExactTotalDelayRow.holds Try.pinned (OpenSpec.ofChange fnExactTotalDelayWrong)

/-- 'laws.FnExactPlaceFigures': WHATEVER THE INPUT: true; the input reads as it did. -/
def fnExactPlaceFiguresSpec : ChangeSpec := { name := "fnExactPlaceFigures", fn := fun _ => fun
  | [d1, d2] => { results := [.lit (.bool true)], args := [d1, d2] }
  | _ => none }
def fnExactPlaceFiguresRow : OpenClaim := { program := "ytofcbhphjghkaac", sum := "eb0ef62b16a9f7e04c907d30d2821642f81b8637868ea2715971240b01e19872", func := "loop.example/typesetting/laws.FnExactPlaceFigures", spec := "fnExactPlaceFigures", apart := false }
def FnExactPlaceFiguresSaid : Prop := fnExactPlaceFiguresRow.holds Try.pinned (OpenSpec.ofChange fnExactPlaceFiguresSpec)

/-- ITS FALSE NEIGHBOUR: 'it returns false'. Refute it at one input. -/
def fnExactPlaceFiguresWrong : ChangeSpec := { name := "fnExactPlaceFigures", fn := fun _ => fun
  | [d1, d2] => { results := [.lit (.bool false)], args := [d1, d2] }
  | _ => none }
def FnExactPlaceFiguresWrongFalsely : Prop := fnExactPlaceFiguresRow.holds Try.pinned (OpenSpec.ofChange fnExactPlaceFiguresWrong)

/-- 'laws.FnPlaceFigures': WHATEVER THE INPUT: true; the input reads as it did. -/
def fnPlaceFiguresSpec : ChangeSpec := { name := "fnPlaceFigures", fn := fun _ => fun
  | [d] => { results := [.lit (.bool true)], args := [d] }
  | _ => none }
def fnPlaceFiguresRow : OpenClaim := { program := "ytofcbhphjghkaac", sum := "eb0ef62b16a9f7e04c907d30d2821642f81b8637868ea2715971240b01e19872", func := "loop.example/typesetting/laws.FnPlaceFigures", spec := "fnPlaceFigures", apart := false }
def FnPlaceFiguresSaid : Prop := fnPlaceFiguresRow.holds Try.pinned (OpenSpec.ofChange fnPlaceFiguresSpec)

/-- ITS FALSE NEIGHBOUR: 'it returns false'. Refute it at one input. -/
def fnPlaceFiguresWrong : ChangeSpec := { name := "fnPlaceFigures", fn := fun _ => fun
  | [d] => { results := [.lit (.bool false)], args := [d] }
  | _ => none }
def FnPlaceFiguresWrongFalsely : Prop := fnPlaceFiguresRow.holds Try.pinned (OpenSpec.ofChange fnPlaceFiguresWrong)

/-- 'laws.FnFiguresEarliest': WHATEVER THE INPUT: true; the input reads as it did. -/
def fnFiguresEarliestSpec : ChangeSpec := { name := "fnFiguresEarliest", fn := fun _ => fun
  | [d] => { results := [.lit (.bool true)], args := [d] }
  | _ => none }
def fnFiguresEarliestRow : OpenClaim := { program := "ytofcbhphjghkaac", sum := "eb0ef62b16a9f7e04c907d30d2821642f81b8637868ea2715971240b01e19872", func := "loop.example/typesetting/laws.FnFiguresEarliest", spec := "fnFiguresEarliest", apart := false }
def FnFiguresEarliestSaid : Prop := fnFiguresEarliestRow.holds Try.pinned (OpenSpec.ofChange fnFiguresEarliestSpec)

/-- ITS FALSE NEIGHBOUR: 'it returns false'. Refute it at one input. -/
def fnFiguresEarliestWrong : ChangeSpec := { name := "fnFiguresEarliest", fn := fun _ => fun
  | [d] => { results := [.lit (.bool false)], args := [d] }
  | _ => none }
def FnFiguresEarliestWrongFalsely : Prop := fnFiguresEarliestRow.holds Try.pinned (OpenSpec.ofChange fnFiguresEarliestWrong)

/-- 'laws.FnTotalDelay': WHATEVER THE INPUT: true; the input reads as it did. -/
def fnTotalDelaySpec : ChangeSpec := { name := "fnTotalDelay", fn := fun _ => fun
  | [d] => { results := [.lit (.bool true)], args := [d] }
  | _ => none }
def fnTotalDelayRow : OpenClaim := { program := "ytofcbhphjghkaac", sum := "eb0ef62b16a9f7e04c907d30d2821642f81b8637868ea2715971240b01e19872", func := "loop.example/typesetting/laws.FnTotalDelay", spec := "fnTotalDelay", apart := false }
def FnTotalDelaySaid : Prop := fnTotalDelayRow.holds Try.pinned (OpenSpec.ofChange fnTotalDelaySpec)

/-- ITS FALSE NEIGHBOUR: 'it returns false'. Refute it at one input. -/
def fnTotalDelayWrong : ChangeSpec := { name := "fnTotalDelay", fn := fun _ => fun
  | [d] => { results := [.lit (.bool false)], args := [d] }
  | _ => none }
def FnTotalDelayWrongFalsely : Prop := fnTotalDelayRow.holds Try.pinned (OpenSpec.ofChange fnTotalDelayWrong)

/-- 'laws.FnFigureSpace': WHATEVER THE INPUT: true; the input reads as it did. -/
def fnFigureSpaceSpec : ChangeSpec := { name := "fnFigureSpace", fn := fun _ => fun
  | [d1, d2] => { results := [.lit (.bool true)], args := [d1, d2] }
  | _ => none }
def fnFigureSpaceRow : OpenClaim := { program := "ytofcbhphjghkaac", sum := "eb0ef62b16a9f7e04c907d30d2821642f81b8637868ea2715971240b01e19872", func := "loop.example/typesetting/laws.FnFigureSpace", spec := "fnFigureSpace", apart := false }
def FnFigureSpaceSaid : Prop := fnFigureSpaceRow.holds Try.pinned (OpenSpec.ofChange fnFigureSpaceSpec)

/-- ITS FALSE NEIGHBOUR: 'it returns false'. Refute it at one input. -/
def fnFigureSpaceWrong : ChangeSpec := { name := "fnFigureSpace", fn := fun _ => fun
  | [d1, d2] => { results := [.lit (.bool false)], args := [d1, d2] }
  | _ => none }
def FnFigureSpaceWrongFalsely : Prop := fnFigureSpaceRow.holds Try.pinned (OpenSpec.ofChange fnFigureSpaceWrong)

/-- 'laws.FnExactStretchColumns': WHATEVER THE INPUT: true; the input reads as it did. -/
def fnExactStretchColumnsSpec : ChangeSpec := { name := "fnExactStretchColumns", fn := fun _ => fun
  | [d1, d2] => { results := [.lit (.bool true)], args := [d1, d2] }
  | _ => none }
def fnExactStretchColumnsRow : OpenClaim := { program := "ytofcbhphjghkaac", sum := "eb0ef62b16a9f7e04c907d30d2821642f81b8637868ea2715971240b01e19872", func := "loop.example/typesetting/laws.FnExactStretchColumns", spec := "fnExactStretchColumns", apart := false }
def FnExactStretchColumnsSaid : Prop := fnExactStretchColumnsRow.holds Try.pinned (OpenSpec.ofChange fnExactStretchColumnsSpec)

/-- ITS FALSE NEIGHBOUR: 'it returns false'. Refute it at one input. -/
def fnExactStretchColumnsWrong : ChangeSpec := { name := "fnExactStretchColumns", fn := fun _ => fun
  | [d1, d2] => { results := [.lit (.bool false)], args := [d1, d2] }
  | _ => none }
def FnExactStretchColumnsWrongFalsely : Prop := fnExactStretchColumnsRow.holds Try.pinned (OpenSpec.ofChange fnExactStretchColumnsWrong)

/-- 'laws.FnStretchColumns': WHATEVER THE INPUT: true; the input reads as it did. -/
def fnStretchColumnsSpec : ChangeSpec := { name := "fnStretchColumns", fn := fun _ => fun
  | [d] => { results := [.lit (.bool true)], args := [d] }
  | _ => none }
def fnStretchColumnsRow : OpenClaim := { program := "ytofcbhphjghkaac", sum := "eb0ef62b16a9f7e04c907d30d2821642f81b8637868ea2715971240b01e19872", func := "loop.example/typesetting/laws.FnStretchColumns", spec := "fnStretchColumns", apart := false }
def FnStretchColumnsSaid : Prop := fnStretchColumnsRow.holds Try.pinned (OpenSpec.ofChange fnStretchColumnsSpec)

/-- ITS FALSE NEIGHBOUR: 'it returns false'. Refute it at one input. -/
def fnStretchColumnsWrong : ChangeSpec := { name := "fnStretchColumns", fn := fun _ => fun
  | [d] => { results := [.lit (.bool false)], args := [d] }
  | _ => none }
def FnStretchColumnsWrongFalsely : Prop := fnStretchColumnsRow.holds Try.pinned (OpenSpec.ofChange fnStretchColumnsWrong)

/-- 'laws.FnExactTextLines': WHATEVER THE INPUT: true; the input reads as it did. -/
def fnExactTextLinesSpec : ChangeSpec := { name := "fnExactTextLines", fn := fun _ => fun
  | [d1, d2] => { results := [.lit (.bool true)], args := [d1, d2] }
  | _ => none }
def fnExactTextLinesRow : OpenClaim := { program := "ytofcbhphjghkaac", sum := "eb0ef62b16a9f7e04c907d30d2821642f81b8637868ea2715971240b01e19872", func := "loop.example/typesetting/laws.FnExactTextLines", spec := "fnExactTextLines", unfollowed := true, recurses := true, apart := false }
def FnExactTextLinesSaid : Prop := fnExactTextLinesRow.holds Try.pinned (OpenSpec.ofChange fnExactTextLinesSpec)

/-- ITS FALSE NEIGHBOUR: 'it returns false'. Refute it at one input. -/
def fnExactTextLinesWrong : ChangeSpec := { name := "fnExactTextLines", fn := fun _ => fun
  | [d1, d2] => { results := [.lit (.bool false)], args := [d1, d2] }
  | _ => none }
def FnExactTextLinesWrongFalsely : Prop := fnExactTextLinesRow.holds Try.pinned (OpenSpec.ofChange fnExactTextLinesWrong)

/-- 'laws.FnTextLines': WHATEVER THE INPUT: true; the input reads as it did. -/
def fnTextLinesSpec : ChangeSpec := { name := "fnTextLines", fn := fun _ => fun
  | [d] => { results := [.lit (.bool true)], args := [d] }
  | _ => none }
def fnTextLinesRow : OpenClaim := { program := "ytofcbhphjghkaac", sum := "eb0ef62b16a9f7e04c907d30d2821642f81b8637868ea2715971240b01e19872", func := "loop.example/typesetting/laws.FnTextLines", spec := "fnTextLines", unfollowed := true, recurses := true, apart := false }
def FnTextLinesSaid : Prop := fnTextLinesRow.holds Try.pinned (OpenSpec.ofChange fnTextLinesSpec)

/-- ITS FALSE NEIGHBOUR: 'it returns false'. Refute it at one input. -/
def fnTextLinesWrong : ChangeSpec := { name := "fnTextLines", fn := fun _ => fun
  | [d] => { results := [.lit (.bool false)], args := [d] }
  | _ => none }
def FnTextLinesWrongFalsely : Prop := fnTextLinesRow.holds Try.pinned (OpenSpec.ofChange fnTextLinesWrong)

/-- 'laws.FnWidowPenalties': WHATEVER THE INPUT: true; the input reads as it did. -/
def fnWidowPenaltiesSpec : ChangeSpec := { name := "fnWidowPenalties", fn := fun _ => fun
  | [d] => { results := [.lit (.bool true)], args := [d] }
  | _ => none }
def fnWidowPenaltiesRow : OpenClaim := { program := "ytofcbhphjghkaac", sum := "eb0ef62b16a9f7e04c907d30d2821642f81b8637868ea2715971240b01e19872", func := "loop.example/typesetting/laws.FnWidowPenalties", spec := "fnWidowPenalties", unfollowed := true, recurses := true, apart := false }
def FnWidowPenaltiesSaid : Prop := fnWidowPenaltiesRow.holds Try.pinned (OpenSpec.ofChange fnWidowPenaltiesSpec)

/-- ITS FALSE NEIGHBOUR: 'it returns false'. Refute it at one input. -/
def fnWidowPenaltiesWrong : ChangeSpec := { name := "fnWidowPenalties", fn := fun _ => fun
  | [d] => { results := [.lit (.bool false)], args := [d] }
  | _ => none }
def FnWidowPenaltiesWrongFalsely : Prop := fnWidowPenaltiesRow.holds Try.pinned (OpenSpec.ofChange fnWidowPenaltiesWrong)

/- THE SECOND FORM. 'bulk': how many values and letters a reading holds, each counted each time it is reached (what is shared counts as often as it is met; a slice's spare places count too). A statement '..UptoSaid' is the law's where the arguments, and the package variables that the reading takes, are together of bulk at most 1048576: NARROWER than '..Said'. Prove '..Said' where nothing that the law and all that it calls make is longer than what came in: it says more and counts as full. Else prove '..UptoSaid'. A law counts once. -/
mutual
def uptoBulk {H : Type} : DataW H → Nat
  | .lit (.string bytes) => bytes.length + 1
  | .lit _ => 1
  | .nil => 1
  | .ptr d => uptoBulk d + 1
  | .slice elems spare => uptoBulkAll elems + uptoBulkAll spare + 1
  | .agg parts => uptoBulkAll parts + 1
  | .iface _ d => uptoBulk d + 1
  | .map entries => uptoBulkEntries entries + 1
  | .held _ => 1
def uptoBulkAll {H : Type} : List (DataW H) → Nat
  | [] => 0
  | d :: r => uptoBulk d + uptoBulkAll r
def uptoBulkEntries {H : Type} : List (Lit × DataW H) → Nat
  | [] => 0
  | x :: r => uptoBulkEntry x + uptoBulkEntries r
def uptoBulkEntry {H : Type} : Lit × DataW H → Nat
  | (.string bytes, d) => bytes.length + uptoBulk d + 1
  | (_, d) => uptoBulk d + 1
 end
def uptoSmall : (H : Type) → List (DataW H) → Bool := fun _ ds => decide (uptoBulkAll ds ≤ 1048576)
def OpenSpec.upto (s : _root_.Go.ChangeSpec) : _root_.Go.OpenSpec := { _root_.Go.OpenSpec.ofChange s with cond := some uptoSmall }

/-- 'laws.FnExactCheckFigures', WHERE WHAT IT READS IS OF BULK AT MOST 1048576: true; the input reads as it did. -/
def fnExactCheckFiguresUptoRow : OpenClaim := { program := "ytofcbhphjghkaac", sum := "eb0ef62b16a9f7e04c907d30d2821642f81b8637868ea2715971240b01e19872", func := "loop.example/typesetting/laws.FnExactCheckFigures", spec := "fnExactCheckFigures", apart := false, narrowed := true }
def FnExactCheckFiguresUptoSaid : Prop := fnExactCheckFiguresUptoRow.holds Try.pinned (OpenSpec.upto fnExactCheckFiguresSpec)

/-- 'laws.FnExactTotalDelay', WHERE WHAT IT READS IS OF BULK AT MOST 1048576: true; the input reads as it did. -/
def fnExactTotalDelayUptoRow : OpenClaim := { program := "ytofcbhphjghkaac", sum := "eb0ef62b16a9f7e04c907d30d2821642f81b8637868ea2715971240b01e19872", func := "loop.example/typesetting/laws.FnExactTotalDelay", spec := "fnExactTotalDelay", apart := false, narrowed := true }
def FnExactTotalDelayUptoSaid : Prop := fnExactTotalDelayUptoRow.holds Try.pinned (OpenSpec.upto fnExactTotalDelaySpec)

/-- 'laws.FnExactPlaceFigures', WHERE WHAT IT READS IS OF BULK AT MOST 1048576: true; the input reads as it did. -/
def fnExactPlaceFiguresUptoRow : OpenClaim := { program := "ytofcbhphjghkaac", sum := "eb0ef62b16a9f7e04c907d30d2821642f81b8637868ea2715971240b01e19872", func := "loop.example/typesetting/laws.FnExactPlaceFigures", spec := "fnExactPlaceFigures", apart := false, narrowed := true }
def FnExactPlaceFiguresUptoSaid : Prop := fnExactPlaceFiguresUptoRow.holds Try.pinned (OpenSpec.upto fnExactPlaceFiguresSpec)

/-- 'laws.FnPlaceFigures', WHERE WHAT IT READS IS OF BULK AT MOST 1048576: true; the input reads as it did. -/
def fnPlaceFiguresUptoRow : OpenClaim := { program := "ytofcbhphjghkaac", sum := "eb0ef62b16a9f7e04c907d30d2821642f81b8637868ea2715971240b01e19872", func := "loop.example/typesetting/laws.FnPlaceFigures", spec := "fnPlaceFigures", apart := false, narrowed := true }
def FnPlaceFiguresUptoSaid : Prop := fnPlaceFiguresUptoRow.holds Try.pinned (OpenSpec.upto fnPlaceFiguresSpec)

/-- 'laws.FnFiguresEarliest', WHERE WHAT IT READS IS OF BULK AT MOST 1048576: true; the input reads as it did. -/
def fnFiguresEarliestUptoRow : OpenClaim := { program := "ytofcbhphjghkaac", sum := "eb0ef62b16a9f7e04c907d30d2821642f81b8637868ea2715971240b01e19872", func := "loop.example/typesetting/laws.FnFiguresEarliest", spec := "fnFiguresEarliest", apart := false, narrowed := true }
def FnFiguresEarliestUptoSaid : Prop := fnFiguresEarliestUptoRow.holds Try.pinned (OpenSpec.upto fnFiguresEarliestSpec)

/-- 'laws.FnTotalDelay', WHERE WHAT IT READS IS OF BULK AT MOST 1048576: true; the input reads as it did. -/
def fnTotalDelayUptoRow : OpenClaim := { program := "ytofcbhphjghkaac", sum := "eb0ef62b16a9f7e04c907d30d2821642f81b8637868ea2715971240b01e19872", func := "loop.example/typesetting/laws.FnTotalDelay", spec := "fnTotalDelay", apart := false, narrowed := true }
def FnTotalDelayUptoSaid : Prop := fnTotalDelayUptoRow.holds Try.pinned (OpenSpec.upto fnTotalDelaySpec)

/-- 'laws.FnFigureSpace', WHERE WHAT IT READS IS OF BULK AT MOST 1048576: true; the input reads as it did. -/
def fnFigureSpaceUptoRow : OpenClaim := { program := "ytofcbhphjghkaac", sum := "eb0ef62b16a9f7e04c907d30d2821642f81b8637868ea2715971240b01e19872", func := "loop.example/typesetting/laws.FnFigureSpace", spec := "fnFigureSpace", apart := false, narrowed := true }
def FnFigureSpaceUptoSaid : Prop := fnFigureSpaceUptoRow.holds Try.pinned (OpenSpec.upto fnFigureSpaceSpec)

/-- 'laws.FnExactStretchColumns', WHERE WHAT IT READS IS OF BULK AT MOST 1048576: true; the input reads as it did. -/
def fnExactStretchColumnsUptoRow : OpenClaim := { program := "ytofcbhphjghkaac", sum := "eb0ef62b16a9f7e04c907d30d2821642f81b8637868ea2715971240b01e19872", func := "loop.example/typesetting/laws.FnExactStretchColumns", spec := "fnExactStretchColumns", apart := false, narrowed := true }
def FnExactStretchColumnsUptoSaid : Prop := fnExactStretchColumnsUptoRow.holds Try.pinned (OpenSpec.upto fnExactStretchColumnsSpec)

/-- 'laws.FnStretchColumns', WHERE WHAT IT READS IS OF BULK AT MOST 1048576: true; the input reads as it did. -/
def fnStretchColumnsUptoRow : OpenClaim := { program := "ytofcbhphjghkaac", sum := "eb0ef62b16a9f7e04c907d30d2821642f81b8637868ea2715971240b01e19872", func := "loop.example/typesetting/laws.FnStretchColumns", spec := "fnStretchColumns", apart := false, narrowed := true }
def FnStretchColumnsUptoSaid : Prop := fnStretchColumnsUptoRow.holds Try.pinned (OpenSpec.upto fnStretchColumnsSpec)

/-- 'laws.FnExactTextLines', WHERE WHAT IT READS IS OF BULK AT MOST 1048576: true; the input reads as it did. -/
def fnExactTextLinesUptoRow : OpenClaim := { program := "ytofcbhphjghkaac", sum := "eb0ef62b16a9f7e04c907d30d2821642f81b8637868ea2715971240b01e19872", func := "loop.example/typesetting/laws.FnExactTextLines", spec := "fnExactTextLines", unfollowed := true, recurses := true, apart := false, narrowed := true }
def FnExactTextLinesUptoSaid : Prop := fnExactTextLinesUptoRow.holds Try.pinned (OpenSpec.upto fnExactTextLinesSpec)

/-- 'laws.FnTextLines', WHERE WHAT IT READS IS OF BULK AT MOST 1048576: true; the input reads as it did. -/
def fnTextLinesUptoRow : OpenClaim := { program := "ytofcbhphjghkaac", sum := "eb0ef62b16a9f7e04c907d30d2821642f81b8637868ea2715971240b01e19872", func := "loop.example/typesetting/laws.FnTextLines", spec := "fnTextLines", unfollowed := true, recurses := true, apart := false, narrowed := true }
def FnTextLinesUptoSaid : Prop := fnTextLinesUptoRow.holds Try.pinned (OpenSpec.upto fnTextLinesSpec)

/-- 'laws.FnWidowPenalties', WHERE WHAT IT READS IS OF BULK AT MOST 1048576: true; the input reads as it did. -/
def fnWidowPenaltiesUptoRow : OpenClaim := { program := "ytofcbhphjghkaac", sum := "eb0ef62b16a9f7e04c907d30d2821642f81b8637868ea2715971240b01e19872", func := "loop.example/typesetting/laws.FnWidowPenalties", spec := "fnWidowPenalties", unfollowed := true, recurses := true, apart := false, narrowed := true }
def FnWidowPenaltiesUptoSaid : Prop := fnWidowPenaltiesUptoRow.holds Try.pinned (OpenSpec.upto fnWidowPenaltiesSpec)

end Rows
end Go.Proofs.Ytofcbhphjghkaac
