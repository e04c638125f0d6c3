/-
  No cell of these rows narrows 'for every input' (looked for: loops, veiled, ifaces, maps, wideKeys, modest, calm, conditions, laid).
  DERIVED. THE GIVEN ROWS OF THIS SEAT. 8 by the template 'for every input the law returns true; each argument reads behind the call as it read before'; 0 by the template 'total and deterministic' (their statements: YtonkbakoifdmiacTotals.lean).
  GIVEN WITH THE SEED: the statements are not yours to turn. If you find one false, say at which input.
  Laid BY PROGRAM, IN A SANDBOX (cutbox-rows.mjs): the forced cells as the released guide's own fill.sh prints them over the translation 08f3fbdde6e7ae9c… (all of the seat's roots in one cut). By AI agents, Wed Nov 11 2026. No macro, syntax, notation, axiom, sorry.
-/
import Derived.Test.YtonkbakoifdmiacChecked
import GoSem.Claim
import GoSem.ClaimJoined
import GoSem.ClaimMapViews
import Derived.JoinedTies
import Derived.KernelRfl
namespace Go.Proofs.Ytonkbakoifdmiac
/- THE CELL 'sum', in the pinned program and in every row, IS THE sha256 OF THE DUMP (.gsa) THAT YtonkbakoifdmiacProg.lean LOADS. Nothing in Lean hashes anything: it is a label: what it is worth is what the hold of that sum in a sandbox is worth. -/
noncomputable def Try.pinned : Pinned := { name := "ytonkbakoifdmiac", sum := "08f3fbdde6e7ae9c9ced01fedf42a32e292fcde31330cf8bcca2a396c01cdfda", checked := Try.checked }
namespace Rows
def none {H : Type} : Left H := { results := [], args := [] }

/-- 'laws.FnRowNested': WHATEVER THE INPUT: true; the input reads as it did. -/
def fnRowNestedSpec : ChangeSpec := { name := "fnRowNested", fn := fun _ => fun
  | [d1, d2] => { results := [.lit (.bool true)], args := [d1, d2] }
  | _ => none }
def fnRowNestedRow : OpenClaim := { program := "ytonkbakoifdmiac", sum := "08f3fbdde6e7ae9c9ced01fedf42a32e292fcde31330cf8bcca2a396c01cdfda", func := "loop.example/typesetting/laws.FnRowNested", spec := "fnRowNested", unfollowed := true, recurses := true, apart := false }
def FnRowNestedSaid : Prop := fnRowNestedRow.holds Try.pinned (OpenSpec.ofChange fnRowNestedSpec)

/-- ITS FALSE NEIGHBOUR: 'it returns false'. Refute it at one input. -/
def fnRowNestedWrong : ChangeSpec := { name := "fnRowNested", fn := fun _ => fun
  | [d1, d2] => { results := [.lit (.bool false)], args := [d1, d2] }
  | _ => none }
def FnRowNestedWrongFalsely : Prop := fnRowNestedRow.holds Try.pinned (OpenSpec.ofChange fnRowNestedWrong)

/-- 'laws.FnExactStackBox': WHATEVER THE INPUT: true; the input reads as it did. -/
def fnExactStackBoxSpec : ChangeSpec := { name := "fnExactStackBox", fn := fun _ => fun
  | [d1, d2] => { results := [.lit (.bool true)], args := [d1, d2] }
  | _ => none }
def fnExactStackBoxRow : OpenClaim := { program := "ytonkbakoifdmiac", sum := "08f3fbdde6e7ae9c9ced01fedf42a32e292fcde31330cf8bcca2a396c01cdfda", func := "loop.example/typesetting/laws.FnExactStackBox", spec := "fnExactStackBox", unfollowed := true, recurses := true, apart := false }
def FnExactStackBoxSaid : Prop := fnExactStackBoxRow.holds Try.pinned (OpenSpec.ofChange fnExactStackBoxSpec)

/-- ITS FALSE NEIGHBOUR: 'it returns false'. Refute it at one input. -/
def fnExactStackBoxWrong : ChangeSpec := { name := "fnExactStackBox", fn := fun _ => fun
  | [d1, d2] => { results := [.lit (.bool false)], args := [d1, d2] }
  | _ => none }
def FnExactStackBoxWrongFalsely : Prop := fnExactStackBoxRow.holds Try.pinned (OpenSpec.ofChange fnExactStackBoxWrong)

/-- 'laws.FnStackOne': WHATEVER THE INPUT: true; the input reads as it did. -/
def fnStackOneSpec : ChangeSpec := { name := "fnStackOne", fn := fun _ => fun
  | [d] => { results := [.lit (.bool true)], args := [d] }
  | _ => none }
def fnStackOneRow : OpenClaim := { program := "ytonkbakoifdmiac", sum := "08f3fbdde6e7ae9c9ced01fedf42a32e292fcde31330cf8bcca2a396c01cdfda", func := "loop.example/typesetting/laws.FnStackOne", spec := "fnStackOne", unfollowed := true, recurses := true, apart := false }
def FnStackOneSaid : Prop := fnStackOneRow.holds Try.pinned (OpenSpec.ofChange fnStackOneSpec)

/-- ITS FALSE NEIGHBOUR: 'it returns false'. Refute it at one input. -/
def fnStackOneWrong : ChangeSpec := { name := "fnStackOne", fn := fun _ => fun
  | [d] => { results := [.lit (.bool false)], args := [d] }
  | _ => none }
def FnStackOneWrongFalsely : Prop := fnStackOneRow.holds Try.pinned (OpenSpec.ofChange fnStackOneWrong)

/-- 'laws.FnStackBox': WHATEVER THE INPUT: true; the input reads as it did. -/
def fnStackBoxSpec : ChangeSpec := { name := "fnStackBox", fn := fun _ => fun
  | [d] => { results := [.lit (.bool true)], args := [d] }
  | _ => none }
def fnStackBoxRow : OpenClaim := { program := "ytonkbakoifdmiac", sum := "08f3fbdde6e7ae9c9ced01fedf42a32e292fcde31330cf8bcca2a396c01cdfda", func := "loop.example/typesetting/laws.FnStackBox", spec := "fnStackBox", unfollowed := true, recurses := true, apart := false }
def FnStackBoxSaid : Prop := fnStackBoxRow.holds Try.pinned (OpenSpec.ofChange fnStackBoxSpec)

/-- ITS FALSE NEIGHBOUR: 'it returns false'. Refute it at one input. -/
def fnStackBoxWrong : ChangeSpec := { name := "fnStackBox", fn := fun _ => fun
  | [d] => { results := [.lit (.bool false)], args := [d] }
  | _ => none }
def FnStackBoxWrongFalsely : Prop := fnStackBoxRow.holds Try.pinned (OpenSpec.ofChange fnStackBoxWrong)

/-- 'laws.FnFiguresEarliest': WHATEVER THE INPUT: true; the input reads as it did. -/
def fnFiguresEarliestSpec : ChangeSpec := { name := "fnFiguresEarliest", fn := fun _ => fun
  | [d] => { results := [.lit (.bool true)], args := [d] }
  | _ => none }
def fnFiguresEarliestRow : OpenClaim := { program := "ytonkbakoifdmiac", sum := "08f3fbdde6e7ae9c9ced01fedf42a32e292fcde31330cf8bcca2a396c01cdfda", func := "loop.example/typesetting/laws.FnFiguresEarliest", spec := "fnFiguresEarliest", apart := false }
def FnFiguresEarliestSaid : Prop := fnFiguresEarliestRow.holds Try.pinned (OpenSpec.ofChange fnFiguresEarliestSpec)

/-- ITS FALSE NEIGHBOUR: 'it returns false'. Refute it at one input. -/
def fnFiguresEarliestWrong : ChangeSpec := { name := "fnFiguresEarliest", fn := fun _ => fun
  | [d] => { results := [.lit (.bool false)], args := [d] }
  | _ => none }
def FnFiguresEarliestWrongFalsely : Prop := fnFiguresEarliestRow.holds Try.pinned (OpenSpec.ofChange fnFiguresEarliestWrong)

/-- 'laws.FnTotalDelay': WHATEVER THE INPUT: true; the input reads as it did. -/
def fnTotalDelaySpec : ChangeSpec := { name := "fnTotalDelay", fn := fun _ => fun
  | [d] => { results := [.lit (.bool true)], args := [d] }
  | _ => none }
def fnTotalDelayRow : OpenClaim := { program := "ytonkbakoifdmiac", sum := "08f3fbdde6e7ae9c9ced01fedf42a32e292fcde31330cf8bcca2a396c01cdfda", func := "loop.example/typesetting/laws.FnTotalDelay", spec := "fnTotalDelay", apart := false }
def FnTotalDelaySaid : Prop := fnTotalDelayRow.holds Try.pinned (OpenSpec.ofChange fnTotalDelaySpec)

/-- ITS FALSE NEIGHBOUR: 'it returns false'. Refute it at one input. -/
def fnTotalDelayWrong : ChangeSpec := { name := "fnTotalDelay", fn := fun _ => fun
  | [d] => { results := [.lit (.bool false)], args := [d] }
  | _ => none }
def FnTotalDelayWrongFalsely : Prop := fnTotalDelayRow.holds Try.pinned (OpenSpec.ofChange fnTotalDelayWrong)

/-- 'laws.FnExactStretchColumns': WHATEVER THE INPUT: true; the input reads as it did. -/
def fnExactStretchColumnsSpec : ChangeSpec := { name := "fnExactStretchColumns", fn := fun _ => fun
  | [d1, d2] => { results := [.lit (.bool true)], args := [d1, d2] }
  | _ => none }
def fnExactStretchColumnsRow : OpenClaim := { program := "ytonkbakoifdmiac", sum := "08f3fbdde6e7ae9c9ced01fedf42a32e292fcde31330cf8bcca2a396c01cdfda", func := "loop.example/typesetting/laws.FnExactStretchColumns", spec := "fnExactStretchColumns", apart := false }
def FnExactStretchColumnsSaid : Prop := fnExactStretchColumnsRow.holds Try.pinned (OpenSpec.ofChange fnExactStretchColumnsSpec)

/-- ITS FALSE NEIGHBOUR: 'it returns false'. Refute it at one input. -/
def fnExactStretchColumnsWrong : ChangeSpec := { name := "fnExactStretchColumns", fn := fun _ => fun
  | [d1, d2] => { results := [.lit (.bool false)], args := [d1, d2] }
  | _ => none }
def FnExactStretchColumnsWrongFalsely : Prop := fnExactStretchColumnsRow.holds Try.pinned (OpenSpec.ofChange fnExactStretchColumnsWrong)

/-- 'laws.FnStretchColumns': WHATEVER THE INPUT: true; the input reads as it did. -/
def fnStretchColumnsSpec : ChangeSpec := { name := "fnStretchColumns", fn := fun _ => fun
  | [d] => { results := [.lit (.bool true)], args := [d] }
  | _ => none }
def fnStretchColumnsRow : OpenClaim := { program := "ytonkbakoifdmiac", sum := "08f3fbdde6e7ae9c9ced01fedf42a32e292fcde31330cf8bcca2a396c01cdfda", func := "loop.example/typesetting/laws.FnStretchColumns", spec := "fnStretchColumns", apart := false }
def FnStretchColumnsSaid : Prop := fnStretchColumnsRow.holds Try.pinned (OpenSpec.ofChange fnStretchColumnsSpec)

/-- ITS FALSE NEIGHBOUR: 'it returns false'. Refute it at one input. -/
def fnStretchColumnsWrong : ChangeSpec := { name := "fnStretchColumns", fn := fun _ => fun
  | [d] => { results := [.lit (.bool false)], args := [d] }
  | _ => none }
def FnStretchColumnsWrongFalsely : Prop := fnStretchColumnsRow.holds Try.pinned (OpenSpec.ofChange fnStretchColumnsWrong)

/- THE SECOND FORM. 'bulk': how many values and letters a reading holds, each counted each time it is reached (what is shared counts as often as it is met; a slice's spare places count too). A statement '..UptoSaid' is the law's where the arguments, and the package variables that the reading takes, are together of bulk at most 1048576: NARROWER than '..Said'. Prove '..Said' where nothing that the law and all that it calls make is longer than what came in: it says more and counts as full. Else prove '..UptoSaid'. A law counts once. -/
mutual
def uptoBulk {H : Type} : DataW H → Nat
  | .lit (.string bytes) => bytes.length + 1
  | .lit _ => 1
  | .nil => 1
  | .ptr d => uptoBulk d + 1
  | .slice elems spare => uptoBulkAll elems + uptoBulkAll spare + 1
  | .agg parts => uptoBulkAll parts + 1
  | .iface _ d => uptoBulk d + 1
  | .map entries => uptoBulkEntries entries + 1
  | .held _ => 1
def uptoBulkAll {H : Type} : List (DataW H) → Nat
  | [] => 0
  | d :: r => uptoBulk d + uptoBulkAll r
def uptoBulkEntries {H : Type} : List (Lit × DataW H) → Nat
  | [] => 0
  | x :: r => uptoBulkEntry x + uptoBulkEntries r
def uptoBulkEntry {H : Type} : Lit × DataW H → Nat
  | (.string bytes, d) => bytes.length + uptoBulk d + 1
  | (_, d) => uptoBulk d + 1
 end
def uptoSmall : (H : Type) → List (DataW H) → Bool := fun _ ds => decide (uptoBulkAll ds ≤ 1048576)
def OpenSpec.upto (s : _root_.Go.ChangeSpec) : _root_.Go.OpenSpec := { _root_.Go.OpenSpec.ofChange s with cond := some uptoSmall }

/-- 'laws.FnRowNested', WHERE WHAT IT READS IS OF BULK AT MOST 1048576: true; the input reads as it did. -/
def fnRowNestedUptoRow : OpenClaim := { program := "ytonkbakoifdmiac", sum := "08f3fbdde6e7ae9c9ced01fedf42a32e292fcde31330cf8bcca2a396c01cdfda", func := "loop.example/typesetting/laws.FnRowNested", spec := "fnRowNested", unfollowed := true, recurses := true, apart := false, narrowed := true }
def FnRowNestedUptoSaid : Prop := fnRowNestedUptoRow.holds Try.pinned (OpenSpec.upto fnRowNestedSpec)

/-- 'laws.FnExactStackBox', WHERE WHAT IT READS IS OF BULK AT MOST 1048576: true; the input reads as it did. -/
def fnExactStackBoxUptoRow : OpenClaim := { program := "ytonkbakoifdmiac", sum := "08f3fbdde6e7ae9c9ced01fedf42a32e292fcde31330cf8bcca2a396c01cdfda", func := "loop.example/typesetting/laws.FnExactStackBox", spec := "fnExactStackBox", unfollowed := true, recurses := true, apart := false, narrowed := true }
def FnExactStackBoxUptoSaid : Prop := fnExactStackBoxUptoRow.holds Try.pinned (OpenSpec.upto fnExactStackBoxSpec)

/-- 'laws.FnStackOne', WHERE WHAT IT READS IS OF BULK AT MOST 1048576: true; the input reads as it did. -/
def fnStackOneUptoRow : OpenClaim := { program := "ytonkbakoifdmiac", sum := "08f3fbdde6e7ae9c9ced01fedf42a32e292fcde31330cf8bcca2a396c01cdfda", func := "loop.example/typesetting/laws.FnStackOne", spec := "fnStackOne", unfollowed := true, recurses := true, apart := false, narrowed := true }
def FnStackOneUptoSaid : Prop := fnStackOneUptoRow.holds Try.pinned (OpenSpec.upto fnStackOneSpec)

/-- 'laws.FnStackBox', WHERE WHAT IT READS IS OF BULK AT MOST 1048576: true; the input reads as it did. -/
def fnStackBoxUptoRow : OpenClaim := { program := "ytonkbakoifdmiac", sum := "08f3fbdde6e7ae9c9ced01fedf42a32e292fcde31330cf8bcca2a396c01cdfda", func := "loop.example/typesetting/laws.FnStackBox", spec := "fnStackBox", unfollowed := true, recurses := true, apart := false, narrowed := true }
def FnStackBoxUptoSaid : Prop := fnStackBoxUptoRow.holds Try.pinned (OpenSpec.upto fnStackBoxSpec)

/-- 'laws.FnFiguresEarliest', WHERE WHAT IT READS IS OF BULK AT MOST 1048576: true; the input reads as it did. -/
def fnFiguresEarliestUptoRow : OpenClaim := { program := "ytonkbakoifdmiac", sum := "08f3fbdde6e7ae9c9ced01fedf42a32e292fcde31330cf8bcca2a396c01cdfda", func := "loop.example/typesetting/laws.FnFiguresEarliest", spec := "fnFiguresEarliest", apart := false, narrowed := true }
def FnFiguresEarliestUptoSaid : Prop := fnFiguresEarliestUptoRow.holds Try.pinned (OpenSpec.upto fnFiguresEarliestSpec)

/-- 'laws.FnTotalDelay', WHERE WHAT IT READS IS OF BULK AT MOST 1048576: true; the input reads as it did. -/
def fnTotalDelayUptoRow : OpenClaim := { program := "ytonkbakoifdmiac", sum := "08f3fbdde6e7ae9c9ced01fedf42a32e292fcde31330cf8bcca2a396c01cdfda", func := "loop.example/typesetting/laws.FnTotalDelay", spec := "fnTotalDelay", apart := false, narrowed := true }
def FnTotalDelayUptoSaid : Prop := fnTotalDelayUptoRow.holds Try.pinned (OpenSpec.upto fnTotalDelaySpec)

/-- 'laws.FnExactStretchColumns', WHERE WHAT IT READS IS OF BULK AT MOST 1048576: true; the input reads as it did. -/
def fnExactStretchColumnsUptoRow : OpenClaim := { program := "ytonkbakoifdmiac", sum := "08f3fbdde6e7ae9c9ced01fedf42a32e292fcde31330cf8bcca2a396c01cdfda", func := "loop.example/typesetting/laws.FnExactStretchColumns", spec := "fnExactStretchColumns", apart := false, narrowed := true }
def FnExactStretchColumnsUptoSaid : Prop := fnExactStretchColumnsUptoRow.holds Try.pinned (OpenSpec.upto fnExactStretchColumnsSpec)

/-- 'laws.FnStretchColumns', WHERE WHAT IT READS IS OF BULK AT MOST 1048576: true; the input reads as it did. -/
def fnStretchColumnsUptoRow : OpenClaim := { program := "ytonkbakoifdmiac", sum := "08f3fbdde6e7ae9c9ced01fedf42a32e292fcde31330cf8bcca2a396c01cdfda", func := "loop.example/typesetting/laws.FnStretchColumns", spec := "fnStretchColumns", apart := false, narrowed := true }
def FnStretchColumnsUptoSaid : Prop := fnStretchColumnsUptoRow.holds Try.pinned (OpenSpec.upto fnStretchColumnsSpec)

end Rows
end Go.Proofs.Ytonkbakoifdmiac
