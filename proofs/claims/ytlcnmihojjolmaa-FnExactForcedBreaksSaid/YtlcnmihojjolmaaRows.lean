/-
  No cell of these rows narrows 'for every input' (looked for: loops, veiled, ifaces, maps, wideKeys, modest, calm, conditions, laid).
  DERIVED. THE GIVEN ROWS OF THIS SEAT. 12 by the template 'for every input the law returns true; each argument reads behind the call as it read before'; 0 by the template 'total and deterministic' (their statements: YtlcnmihojjolmaaTotals.lean).
  GIVEN WITH THE SEED: the statements are not yours to turn. If you find one false, say at which input.
  Laid BY PROGRAM, IN A SANDBOX (cutbox-rows.mjs): the forced cells as the released guide's own fill.sh prints them over the translation 210cf9aa9ba5fe5c… (all of the seat's roots in one cut). By AI agents, Wed Nov 11 2026. No macro, syntax, notation, axiom, sorry.
-/
import Derived.Test.YtlcnmihojjolmaaChecked
import GoSem.Claim
import GoSem.ClaimJoined
import GoSem.ClaimMapViews
import Derived.JoinedTies
import Derived.KernelRfl
namespace Go.Proofs.Ytlcnmihojjolmaa
/- THE CELL 'sum', in the pinned program and in every row, IS THE sha256 OF THE DUMP (.gsa) THAT YtlcnmihojjolmaaProg.lean LOADS. Nothing in Lean hashes anything: it is a label: what it is worth is what the hold of that sum in a sandbox is worth. -/
noncomputable def Try.pinned : Pinned := { name := "ytlcnmihojjolmaa", sum := "210cf9aa9ba5fe5c0aeca9b5d8f57e72b011e9e8afcc91c67c328209060ccbaa", checked := Try.checked }
namespace Rows
def none {H : Type} : Left H := { results := [], args := [] }

/-- 'laws.FnExactValidItems': WHATEVER THE INPUT: true; the input reads as it did. -/
def fnExactValidItemsSpec : ChangeSpec := { name := "fnExactValidItems", fn := fun _ => fun
  | [d] => { results := [.lit (.bool true)], args := [d] }
  | _ => none }
def fnExactValidItemsRow : OpenClaim := { program := "ytlcnmihojjolmaa", sum := "210cf9aa9ba5fe5c0aeca9b5d8f57e72b011e9e8afcc91c67c328209060ccbaa", func := "loop.example/typesetting/laws.FnExactValidItems", spec := "fnExactValidItems", unfollowed := true, recurses := true, apart := false }
def FnExactValidItemsSaid : Prop := fnExactValidItemsRow.holds Try.pinned (OpenSpec.ofChange fnExactValidItemsSpec)

/-- ITS FALSE NEIGHBOUR: 'it returns false'. Refute it at one input. -/
def fnExactValidItemsWrong : ChangeSpec := { name := "fnExactValidItems", fn := fun _ => fun
  | [d] => { results := [.lit (.bool false)], args := [d] }
  | _ => none }
def FnExactValidItemsWrongFalsely : Prop := fnExactValidItemsRow.holds Try.pinned (OpenSpec.ofChange fnExactValidItemsWrong)

/-- 'laws.FnExactBreaksOf': WHATEVER THE INPUT: true; the input reads as it did. -/
def fnExactBreaksOfSpec : ChangeSpec := { name := "fnExactBreaksOf", fn := fun _ => fun
  | [d] => { results := [.lit (.bool true)], args := [d] }
  | _ => none }
def fnExactBreaksOfRow : OpenClaim := { program := "ytlcnmihojjolmaa", sum := "210cf9aa9ba5fe5c0aeca9b5d8f57e72b011e9e8afcc91c67c328209060ccbaa", func := "loop.example/typesetting/laws.FnExactBreaksOf", spec := "fnExactBreaksOf", unfollowed := true, recurses := true, apart := false }
def FnExactBreaksOfSaid : Prop := fnExactBreaksOfRow.holds Try.pinned (OpenSpec.ofChange fnExactBreaksOfSpec)

/-- ITS FALSE NEIGHBOUR: 'it returns false'. Refute it at one input. -/
def fnExactBreaksOfWrong : ChangeSpec := { name := "fnExactBreaksOf", fn := fun _ => fun
  | [d] => { results := [.lit (.bool false)], args := [d] }
  | _ => none }
def FnExactBreaksOfWrongFalsely : Prop := fnExactBreaksOfRow.holds Try.pinned (OpenSpec.ofChange fnExactBreaksOfWrong)

/-- 'laws.FnExactForcedBreaks': WHATEVER THE INPUT: true; the input reads as it did. -/
def fnExactForcedBreaksSpec : ChangeSpec := { name := "fnExactForcedBreaks", fn := fun _ => fun
  | [d] => { results := [.lit (.bool true)], args := [d] }
  | _ => none }
def fnExactForcedBreaksRow : OpenClaim := { program := "ytlcnmihojjolmaa", sum := "210cf9aa9ba5fe5c0aeca9b5d8f57e72b011e9e8afcc91c67c328209060ccbaa", func := "loop.example/typesetting/laws.FnExactForcedBreaks", spec := "fnExactForcedBreaks", unfollowed := true, recurses := true, apart := false }
def FnExactForcedBreaksSaid : Prop := fnExactForcedBreaksRow.holds Try.pinned (OpenSpec.ofChange fnExactForcedBreaksSpec)

/-- ITS FALSE NEIGHBOUR: 'it returns false'. Refute it at one input. -/
def fnExactForcedBreaksWrong : ChangeSpec := { name := "fnExactForcedBreaks", fn := fun _ => fun
  | [d] => { results := [.lit (.bool false)], args := [d] }
  | _ => none }
def FnExactForcedBreaksWrongFalsely : Prop := fnExactForcedBreaksRow.holds Try.pinned (OpenSpec.ofChange fnExactForcedBreaksWrong)

/-- 'laws.FnExactLineGlue': WHATEVER THE INPUT: true; the input reads as it did. -/
def fnExactLineGlueSpec : ChangeSpec := { name := "fnExactLineGlue", fn := fun _ => fun
  | [d1, d2, d3] => { results := [.lit (.bool true)], args := [d1, d2, d3] }
  | _ => none }
def fnExactLineGlueRow : OpenClaim := { program := "ytlcnmihojjolmaa", sum := "210cf9aa9ba5fe5c0aeca9b5d8f57e72b011e9e8afcc91c67c328209060ccbaa", func := "loop.example/typesetting/laws.FnExactLineGlue", spec := "fnExactLineGlue", unfollowed := true, recurses := true, apart := false }
def FnExactLineGlueSaid : Prop := fnExactLineGlueRow.holds Try.pinned (OpenSpec.ofChange fnExactLineGlueSpec)

/-- ITS FALSE NEIGHBOUR: 'it returns false'. Refute it at one input. -/
def fnExactLineGlueWrong : ChangeSpec := { name := "fnExactLineGlue", fn := fun _ => fun
  | [d1, d2, d3] => { results := [.lit (.bool false)], args := [d1, d2, d3] }
  | _ => none }
def FnExactLineGlueWrongFalsely : Prop := fnExactLineGlueRow.holds Try.pinned (OpenSpec.ofChange fnExactLineGlueWrong)

/-- 'laws.FnExactFitLine': WHATEVER THE INPUT: true; the input reads as it did. -/
def fnExactFitLineSpec : ChangeSpec := { name := "fnExactFitLine", fn := fun _ => fun
  | [d1, d2, d3, d4] => { results := [.lit (.bool true)], args := [d1, d2, d3, d4] }
  | _ => none }
def fnExactFitLineRow : OpenClaim := { program := "ytlcnmihojjolmaa", sum := "210cf9aa9ba5fe5c0aeca9b5d8f57e72b011e9e8afcc91c67c328209060ccbaa", func := "loop.example/typesetting/laws.FnExactFitLine", spec := "fnExactFitLine", unfollowed := true, recurses := true, apart := false }
def FnExactFitLineSaid : Prop := fnExactFitLineRow.holds Try.pinned (OpenSpec.ofChange fnExactFitLineSpec)

/-- ITS FALSE NEIGHBOUR: 'it returns false'. Refute it at one input. -/
def fnExactFitLineWrong : ChangeSpec := { name := "fnExactFitLine", fn := fun _ => fun
  | [d1, d2, d3, d4] => { results := [.lit (.bool false)], args := [d1, d2, d3, d4] }
  | _ => none }
def FnExactFitLineWrongFalsely : Prop := fnExactFitLineRow.holds Try.pinned (OpenSpec.ofChange fnExactFitLineWrong)

/-- 'laws.FnExactLineCost': WHATEVER THE INPUT: true; the input reads as it did. -/
def fnExactLineCostSpec : ChangeSpec := { name := "fnExactLineCost", fn := fun _ => fun
  | [d1, d2, d3, d4, d5] => { results := [.lit (.bool true)], args := [d1, d2, d3, d4, d5] }
  | _ => none }
def fnExactLineCostRow : OpenClaim := { program := "ytlcnmihojjolmaa", sum := "210cf9aa9ba5fe5c0aeca9b5d8f57e72b011e9e8afcc91c67c328209060ccbaa", func := "loop.example/typesetting/laws.FnExactLineCost", spec := "fnExactLineCost", unfollowed := true, recurses := true, apart := false }
def FnExactLineCostSaid : Prop := fnExactLineCostRow.holds Try.pinned (OpenSpec.ofChange fnExactLineCostSpec)

/-- ITS FALSE NEIGHBOUR: 'it returns false'. Refute it at one input. -/
def fnExactLineCostWrong : ChangeSpec := { name := "fnExactLineCost", fn := fun _ => fun
  | [d1, d2, d3, d4, d5] => { results := [.lit (.bool false)], args := [d1, d2, d3, d4, d5] }
  | _ => none }
def FnExactLineCostWrongFalsely : Prop := fnExactLineCostRow.holds Try.pinned (OpenSpec.ofChange fnExactLineCostWrong)

/-- 'laws.FnExactBoxesOf': WHATEVER THE INPUT: true; the input reads as it did. -/
def fnExactBoxesOfSpec : ChangeSpec := { name := "fnExactBoxesOf", fn := fun _ => fun
  | [d1, d2, d3] => { results := [.lit (.bool true)], args := [d1, d2, d3] }
  | _ => none }
def fnExactBoxesOfRow : OpenClaim := { program := "ytlcnmihojjolmaa", sum := "210cf9aa9ba5fe5c0aeca9b5d8f57e72b011e9e8afcc91c67c328209060ccbaa", func := "loop.example/typesetting/laws.FnExactBoxesOf", spec := "fnExactBoxesOf", unfollowed := true, recurses := true, apart := false }
def FnExactBoxesOfSaid : Prop := fnExactBoxesOfRow.holds Try.pinned (OpenSpec.ofChange fnExactBoxesOfSpec)

/-- ITS FALSE NEIGHBOUR: 'it returns false'. Refute it at one input. -/
def fnExactBoxesOfWrong : ChangeSpec := { name := "fnExactBoxesOf", fn := fun _ => fun
  | [d1, d2, d3] => { results := [.lit (.bool false)], args := [d1, d2, d3] }
  | _ => none }
def FnExactBoxesOfWrongFalsely : Prop := fnExactBoxesOfRow.holds Try.pinned (OpenSpec.ofChange fnExactBoxesOfWrong)

/-- 'laws.FnExactValidBreaks': WHATEVER THE INPUT: true; the input reads as it did. -/
def fnExactValidBreaksSpec : ChangeSpec := { name := "fnExactValidBreaks", fn := fun _ => fun
  | [d1, d2] => { results := [.lit (.bool true)], args := [d1, d2] }
  | _ => none }
def fnExactValidBreaksRow : OpenClaim := { program := "ytlcnmihojjolmaa", sum := "210cf9aa9ba5fe5c0aeca9b5d8f57e72b011e9e8afcc91c67c328209060ccbaa", func := "loop.example/typesetting/laws.FnExactValidBreaks", spec := "fnExactValidBreaks", unfollowed := true, recurses := true, apart := false }
def FnExactValidBreaksSaid : Prop := fnExactValidBreaksRow.holds Try.pinned (OpenSpec.ofChange fnExactValidBreaksSpec)

/-- ITS FALSE NEIGHBOUR: 'it returns false'. Refute it at one input. -/
def fnExactValidBreaksWrong : ChangeSpec := { name := "fnExactValidBreaks", fn := fun _ => fun
  | [d1, d2] => { results := [.lit (.bool false)], args := [d1, d2] }
  | _ => none }
def FnExactValidBreaksWrongFalsely : Prop := fnExactValidBreaksRow.holds Try.pinned (OpenSpec.ofChange fnExactValidBreaksWrong)

/-- 'laws.FnExactFirstFit': WHATEVER THE INPUT: true; the input reads as it did. -/
def fnExactFirstFitSpec : ChangeSpec := { name := "fnExactFirstFit", fn := fun _ => fun
  | [d1, d2] => { results := [.lit (.bool true)], args := [d1, d2] }
  | _ => none }
def fnExactFirstFitRow : OpenClaim := { program := "ytlcnmihojjolmaa", sum := "210cf9aa9ba5fe5c0aeca9b5d8f57e72b011e9e8afcc91c67c328209060ccbaa", func := "loop.example/typesetting/laws.FnExactFirstFit", spec := "fnExactFirstFit", unfollowed := true, recurses := true, apart := false }
def FnExactFirstFitSaid : Prop := fnExactFirstFitRow.holds Try.pinned (OpenSpec.ofChange fnExactFirstFitSpec)

/-- ITS FALSE NEIGHBOUR: 'it returns false'. Refute it at one input. -/
def fnExactFirstFitWrong : ChangeSpec := { name := "fnExactFirstFit", fn := fun _ => fun
  | [d1, d2] => { results := [.lit (.bool false)], args := [d1, d2] }
  | _ => none }
def FnExactFirstFitWrongFalsely : Prop := fnExactFirstFitRow.holds Try.pinned (OpenSpec.ofChange fnExactFirstFitWrong)

/-- 'laws.FnExactOverfullLines': WHATEVER THE INPUT: true; the input reads as it did. -/
def fnExactOverfullLinesSpec : ChangeSpec := { name := "fnExactOverfullLines", fn := fun _ => fun
  | [d1, d2, d3] => { results := [.lit (.bool true)], args := [d1, d2, d3] }
  | _ => none }
def fnExactOverfullLinesRow : OpenClaim := { program := "ytlcnmihojjolmaa", sum := "210cf9aa9ba5fe5c0aeca9b5d8f57e72b011e9e8afcc91c67c328209060ccbaa", func := "loop.example/typesetting/laws.FnExactOverfullLines", spec := "fnExactOverfullLines", unfollowed := true, recurses := true, apart := false }
def FnExactOverfullLinesSaid : Prop := fnExactOverfullLinesRow.holds Try.pinned (OpenSpec.ofChange fnExactOverfullLinesSpec)

/-- ITS FALSE NEIGHBOUR: 'it returns false'. Refute it at one input. -/
def fnExactOverfullLinesWrong : ChangeSpec := { name := "fnExactOverfullLines", fn := fun _ => fun
  | [d1, d2, d3] => { results := [.lit (.bool false)], args := [d1, d2, d3] }
  | _ => none }
def FnExactOverfullLinesWrongFalsely : Prop := fnExactOverfullLinesRow.holds Try.pinned (OpenSpec.ofChange fnExactOverfullLinesWrong)

/-- 'laws.FnExactSetLine': WHATEVER THE INPUT: true; the input reads as it did. -/
def fnExactSetLineSpec : ChangeSpec := { name := "fnExactSetLine", fn := fun _ => fun
  | [d1, d2, d3, d4] => { results := [.lit (.bool true)], args := [d1, d2, d3, d4] }
  | _ => none }
def fnExactSetLineRow : OpenClaim := { program := "ytlcnmihojjolmaa", sum := "210cf9aa9ba5fe5c0aeca9b5d8f57e72b011e9e8afcc91c67c328209060ccbaa", func := "loop.example/typesetting/laws.FnExactSetLine", spec := "fnExactSetLine", unfollowed := true, recurses := true, apart := false }
def FnExactSetLineSaid : Prop := fnExactSetLineRow.holds Try.pinned (OpenSpec.ofChange fnExactSetLineSpec)

/-- ITS FALSE NEIGHBOUR: 'it returns false'. Refute it at one input. -/
def fnExactSetLineWrong : ChangeSpec := { name := "fnExactSetLine", fn := fun _ => fun
  | [d1, d2, d3, d4] => { results := [.lit (.bool false)], args := [d1, d2, d3, d4] }
  | _ => none }
def FnExactSetLineWrongFalsely : Prop := fnExactSetLineRow.holds Try.pinned (OpenSpec.ofChange fnExactSetLineWrong)

/-- 'laws.FnExactCheckBreaks': WHATEVER THE INPUT: true; the input reads as it did. -/
def fnExactCheckBreaksSpec : ChangeSpec := { name := "fnExactCheckBreaks", fn := fun _ => fun
  | [d1, d2, d3, d4] => { results := [.lit (.bool true)], args := [d1, d2, d3, d4] }
  | _ => none }
def fnExactCheckBreaksRow : OpenClaim := { program := "ytlcnmihojjolmaa", sum := "210cf9aa9ba5fe5c0aeca9b5d8f57e72b011e9e8afcc91c67c328209060ccbaa", func := "loop.example/typesetting/laws.FnExactCheckBreaks", spec := "fnExactCheckBreaks", unfollowed := true, recurses := true, apart := false }
def FnExactCheckBreaksSaid : Prop := fnExactCheckBreaksRow.holds Try.pinned (OpenSpec.ofChange fnExactCheckBreaksSpec)

/-- ITS FALSE NEIGHBOUR: 'it returns false'. Refute it at one input. -/
def fnExactCheckBreaksWrong : ChangeSpec := { name := "fnExactCheckBreaks", fn := fun _ => fun
  | [d1, d2, d3, d4] => { results := [.lit (.bool false)], args := [d1, d2, d3, d4] }
  | _ => none }
def FnExactCheckBreaksWrongFalsely : Prop := fnExactCheckBreaksRow.holds Try.pinned (OpenSpec.ofChange fnExactCheckBreaksWrong)

/- THE SECOND FORM. 'bulk': how many values and letters a reading holds, each counted each time it is reached (what is shared counts as often as it is met; a slice's spare places count too). A statement '..UptoSaid' is the law's where the arguments, and the package variables that the reading takes, are together of bulk at most 1048576: NARROWER than '..Said'. Prove '..Said' where nothing that the law and all that it calls make is longer than what came in: it says more and counts as full. Else prove '..UptoSaid'. A law counts once. -/
mutual
def uptoBulk {H : Type} : DataW H → Nat
  | .lit (.string bytes) => bytes.length + 1
  | .lit _ => 1
  | .nil => 1
  | .ptr d => uptoBulk d + 1
  | .slice elems spare => uptoBulkAll elems + uptoBulkAll spare + 1
  | .agg parts => uptoBulkAll parts + 1
  | .iface _ d => uptoBulk d + 1
  | .map entries => uptoBulkEntries entries + 1
  | .held _ => 1
def uptoBulkAll {H : Type} : List (DataW H) → Nat
  | [] => 0
  | d :: r => uptoBulk d + uptoBulkAll r
def uptoBulkEntries {H : Type} : List (Lit × DataW H) → Nat
  | [] => 0
  | x :: r => uptoBulkEntry x + uptoBulkEntries r
def uptoBulkEntry {H : Type} : Lit × DataW H → Nat
  | (.string bytes, d) => bytes.length + uptoBulk d + 1
  | (_, d) => uptoBulk d + 1
 end
def uptoSmall : (H : Type) → List (DataW H) → Bool := fun _ ds => decide (uptoBulkAll ds ≤ 1048576)
def OpenSpec.upto (s : _root_.Go.ChangeSpec) : _root_.Go.OpenSpec := { _root_.Go.OpenSpec.ofChange s with cond := some uptoSmall }

/-- 'laws.FnExactValidItems', WHERE WHAT IT READS IS OF BULK AT MOST 1048576: true; the input reads as it did. -/
def fnExactValidItemsUptoRow : OpenClaim := { program := "ytlcnmihojjolmaa", sum := "210cf9aa9ba5fe5c0aeca9b5d8f57e72b011e9e8afcc91c67c328209060ccbaa", func := "loop.example/typesetting/laws.FnExactValidItems", spec := "fnExactValidItems", unfollowed := true, recurses := true, apart := false, narrowed := true }
def FnExactValidItemsUptoSaid : Prop := fnExactValidItemsUptoRow.holds Try.pinned (OpenSpec.upto fnExactValidItemsSpec)

/-- 'laws.FnExactBreaksOf', WHERE WHAT IT READS IS OF BULK AT MOST 1048576: true; the input reads as it did. -/
def fnExactBreaksOfUptoRow : OpenClaim := { program := "ytlcnmihojjolmaa", sum := "210cf9aa9ba5fe5c0aeca9b5d8f57e72b011e9e8afcc91c67c328209060ccbaa", func := "loop.example/typesetting/laws.FnExactBreaksOf", spec := "fnExactBreaksOf", unfollowed := true, recurses := true, apart := false, narrowed := true }
def FnExactBreaksOfUptoSaid : Prop := fnExactBreaksOfUptoRow.holds Try.pinned (OpenSpec.upto fnExactBreaksOfSpec)

/-- 'laws.FnExactForcedBreaks', WHERE WHAT IT READS IS OF BULK AT MOST 1048576: true; the input reads as it did. -/
def fnExactForcedBreaksUptoRow : OpenClaim := { program := "ytlcnmihojjolmaa", sum := "210cf9aa9ba5fe5c0aeca9b5d8f57e72b011e9e8afcc91c67c328209060ccbaa", func := "loop.example/typesetting/laws.FnExactForcedBreaks", spec := "fnExactForcedBreaks", unfollowed := true, recurses := true, apart := false, narrowed := true }
def FnExactForcedBreaksUptoSaid : Prop := fnExactForcedBreaksUptoRow.holds Try.pinned (OpenSpec.upto fnExactForcedBreaksSpec)

/-- 'laws.FnExactLineGlue', WHERE WHAT IT READS IS OF BULK AT MOST 1048576: true; the input reads as it did. -/
def fnExactLineGlueUptoRow : OpenClaim := { program := "ytlcnmihojjolmaa", sum := "210cf9aa9ba5fe5c0aeca9b5d8f57e72b011e9e8afcc91c67c328209060ccbaa", func := "loop.example/typesetting/laws.FnExactLineGlue", spec := "fnExactLineGlue", unfollowed := true, recurses := true, apart := false, narrowed := true }
def FnExactLineGlueUptoSaid : Prop := fnExactLineGlueUptoRow.holds Try.pinned (OpenSpec.upto fnExactLineGlueSpec)

/-- 'laws.FnExactFitLine', WHERE WHAT IT READS IS OF BULK AT MOST 1048576: true; the input reads as it did. -/
def fnExactFitLineUptoRow : OpenClaim := { program := "ytlcnmihojjolmaa", sum := "210cf9aa9ba5fe5c0aeca9b5d8f57e72b011e9e8afcc91c67c328209060ccbaa", func := "loop.example/typesetting/laws.FnExactFitLine", spec := "fnExactFitLine", unfollowed := true, recurses := true, apart := false, narrowed := true }
def FnExactFitLineUptoSaid : Prop := fnExactFitLineUptoRow.holds Try.pinned (OpenSpec.upto fnExactFitLineSpec)

/-- 'laws.FnExactLineCost', WHERE WHAT IT READS IS OF BULK AT MOST 1048576: true; the input reads as it did. -/
def fnExactLineCostUptoRow : OpenClaim := { program := "ytlcnmihojjolmaa", sum := "210cf9aa9ba5fe5c0aeca9b5d8f57e72b011e9e8afcc91c67c328209060ccbaa", func := "loop.example/typesetting/laws.FnExactLineCost", spec := "fnExactLineCost", unfollowed := true, recurses := true, apart := false, narrowed := true }
def FnExactLineCostUptoSaid : Prop := fnExactLineCostUptoRow.holds Try.pinned (OpenSpec.upto fnExactLineCostSpec)

/-- 'laws.FnExactBoxesOf', WHERE WHAT IT READS IS OF BULK AT MOST 1048576: true; the input reads as it did. -/
def fnExactBoxesOfUptoRow : OpenClaim := { program := "ytlcnmihojjolmaa", sum := "210cf9aa9ba5fe5c0aeca9b5d8f57e72b011e9e8afcc91c67c328209060ccbaa", func := "loop.example/typesetting/laws.FnExactBoxesOf", spec := "fnExactBoxesOf", unfollowed := true, recurses := true, apart := false, narrowed := true }
def FnExactBoxesOfUptoSaid : Prop := fnExactBoxesOfUptoRow.holds Try.pinned (OpenSpec.upto fnExactBoxesOfSpec)

/-- 'laws.FnExactValidBreaks', WHERE WHAT IT READS IS OF BULK AT MOST 1048576: true; the input reads as it did. -/
def fnExactValidBreaksUptoRow : OpenClaim := { program := "ytlcnmihojjolmaa", sum := "210cf9aa9ba5fe5c0aeca9b5d8f57e72b011e9e8afcc91c67c328209060ccbaa", func := "loop.example/typesetting/laws.FnExactValidBreaks", spec := "fnExactValidBreaks", unfollowed := true, recurses := true, apart := false, narrowed := true }
def FnExactValidBreaksUptoSaid : Prop := fnExactValidBreaksUptoRow.holds Try.pinned (OpenSpec.upto fnExactValidBreaksSpec)

/-- 'laws.FnExactFirstFit', WHERE WHAT IT READS IS OF BULK AT MOST 1048576: true; the input reads as it did. -/
def fnExactFirstFitUptoRow : OpenClaim := { program := "ytlcnmihojjolmaa", sum := "210cf9aa9ba5fe5c0aeca9b5d8f57e72b011e9e8afcc91c67c328209060ccbaa", func := "loop.example/typesetting/laws.FnExactFirstFit", spec := "fnExactFirstFit", unfollowed := true, recurses := true, apart := false, narrowed := true }
def FnExactFirstFitUptoSaid : Prop := fnExactFirstFitUptoRow.holds Try.pinned (OpenSpec.upto fnExactFirstFitSpec)

/-- 'laws.FnExactOverfullLines', WHERE WHAT IT READS IS OF BULK AT MOST 1048576: true; the input reads as it did. -/
def fnExactOverfullLinesUptoRow : OpenClaim := { program := "ytlcnmihojjolmaa", sum := "210cf9aa9ba5fe5c0aeca9b5d8f57e72b011e9e8afcc91c67c328209060ccbaa", func := "loop.example/typesetting/laws.FnExactOverfullLines", spec := "fnExactOverfullLines", unfollowed := true, recurses := true, apart := false, narrowed := true }
def FnExactOverfullLinesUptoSaid : Prop := fnExactOverfullLinesUptoRow.holds Try.pinned (OpenSpec.upto fnExactOverfullLinesSpec)

/-- 'laws.FnExactSetLine', WHERE WHAT IT READS IS OF BULK AT MOST 1048576: true; the input reads as it did. -/
def fnExactSetLineUptoRow : OpenClaim := { program := "ytlcnmihojjolmaa", sum := "210cf9aa9ba5fe5c0aeca9b5d8f57e72b011e9e8afcc91c67c328209060ccbaa", func := "loop.example/typesetting/laws.FnExactSetLine", spec := "fnExactSetLine", unfollowed := true, recurses := true, apart := false, narrowed := true }
def FnExactSetLineUptoSaid : Prop := fnExactSetLineUptoRow.holds Try.pinned (OpenSpec.upto fnExactSetLineSpec)

/-- 'laws.FnExactCheckBreaks', WHERE WHAT IT READS IS OF BULK AT MOST 1048576: true; the input reads as it did. -/
def fnExactCheckBreaksUptoRow : OpenClaim := { program := "ytlcnmihojjolmaa", sum := "210cf9aa9ba5fe5c0aeca9b5d8f57e72b011e9e8afcc91c67c328209060ccbaa", func := "loop.example/typesetting/laws.FnExactCheckBreaks", spec := "fnExactCheckBreaks", unfollowed := true, recurses := true, apart := false, narrowed := true }
def FnExactCheckBreaksUptoSaid : Prop := fnExactCheckBreaksUptoRow.holds Try.pinned (OpenSpec.upto fnExactCheckBreaksSpec)

end Rows
end Go.Proofs.Ytlcnmihojjolmaa
