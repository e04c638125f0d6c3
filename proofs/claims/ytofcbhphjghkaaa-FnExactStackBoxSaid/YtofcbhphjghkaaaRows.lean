/-
  No cell of these rows narrows 'for every input' (looked for: loops, veiled, ifaces, maps, wideKeys, modest, calm, conditions, laid).
  DERIVED. THE GIVEN ROWS OF THIS SEAT. 12 by the template 'for every input the law returns true; each argument reads behind the call as it read before'; 0 by the template 'total and deterministic' (their statements: YtofcbhphjghkaaaTotals.lean).
  GIVEN WITH THE SEED: the statements are not yours to turn. If you find one false, say at which input.
  Laid BY PROGRAM, IN A SANDBOX (cutbox-rows.mjs): the forced cells as the released guide's own fill.sh prints them over the translation 3599ba5672359713… (all of the seat's roots in one cut). By AI agents, Wed Nov 11 2026. No macro, syntax, notation, axiom, sorry.
-/
import Derived.Test.YtofcbhphjghkaaaChecked
import GoSem.Claim
import GoSem.ClaimJoined
import GoSem.ClaimMapViews
import Derived.JoinedTies
import Derived.KernelRfl
namespace Go.Proofs.Ytofcbhphjghkaaa
/- THE CELL 'sum', in the pinned program and in every row, IS THE sha256 OF THE DUMP (.gsa) THAT YtofcbhphjghkaaaProg.lean LOADS. Nothing in Lean hashes anything: it is a label: what it is worth is what the hold of that sum in a sandbox is worth. -/
noncomputable def Try.pinned : Pinned := { name := "ytofcbhphjghkaaa", sum := "3599ba5672359713fdfd62646109d4e19598f811107d289d51a4a57cc9a0351a", checked := Try.checked }
namespace Rows
def none {H : Type} : Left H := { results := [], args := [] }

/-- 'laws.FnExactRowBox': WHATEVER THE INPUT: true; the input reads as it did. -/
def fnExactRowBoxSpec : ChangeSpec := { name := "fnExactRowBox", fn := fun _ => fun
  | [d] => { results := [.lit (.bool true)], args := [d] }
  | _ => none }
def fnExactRowBoxRow : OpenClaim := { program := "ytofcbhphjghkaaa", sum := "3599ba5672359713fdfd62646109d4e19598f811107d289d51a4a57cc9a0351a", func := "loop.example/typesetting/laws.FnExactRowBox", spec := "fnExactRowBox", unfollowed := true, recurses := true, apart := false }
def FnExactRowBoxSaid : Prop := fnExactRowBoxRow.holds Try.pinned (OpenSpec.ofChange fnExactRowBoxSpec)

/-- ITS FALSE NEIGHBOUR: 'it returns false'. Refute it at one input. -/
def fnExactRowBoxWrong : ChangeSpec := { name := "fnExactRowBox", fn := fun _ => fun
  | [d] => { results := [.lit (.bool false)], args := [d] }
  | _ => none }
def FnExactRowBoxWrongFalsely : Prop := fnExactRowBoxRow.holds Try.pinned (OpenSpec.ofChange fnExactRowBoxWrong)

/-- 'laws.FnRowBox': WHATEVER THE INPUT: true; the input reads as it did. -/
def fnRowBoxSpec : ChangeSpec := { name := "fnRowBox", fn := fun _ => fun
  | [d] => { results := [.lit (.bool true)], args := [d] }
  | _ => none }
def fnRowBoxRow : OpenClaim := { program := "ytofcbhphjghkaaa", sum := "3599ba5672359713fdfd62646109d4e19598f811107d289d51a4a57cc9a0351a", func := "loop.example/typesetting/laws.FnRowBox", spec := "fnRowBox", unfollowed := true, recurses := true, apart := false }
def FnRowBoxSaid : Prop := fnRowBoxRow.holds Try.pinned (OpenSpec.ofChange fnRowBoxSpec)

/-- ITS FALSE NEIGHBOUR: 'it returns false'. Refute it at one input. -/
def fnRowBoxWrong : ChangeSpec := { name := "fnRowBox", fn := fun _ => fun
  | [d] => { results := [.lit (.bool false)], args := [d] }
  | _ => none }
def FnRowBoxWrongFalsely : Prop := fnRowBoxRow.holds Try.pinned (OpenSpec.ofChange fnRowBoxWrong)

/-- 'laws.FnExactRaiseBox': WHATEVER THE INPUT: true; the input reads as it did. -/
def fnExactRaiseBoxSpec : ChangeSpec := { name := "fnExactRaiseBox", fn := fun _ => fun
  | [d1, d2] => { results := [.lit (.bool true)], args := [d1, d2] }
  | _ => none }
def fnExactRaiseBoxRow : OpenClaim := { program := "ytofcbhphjghkaaa", sum := "3599ba5672359713fdfd62646109d4e19598f811107d289d51a4a57cc9a0351a", func := "loop.example/typesetting/laws.FnExactRaiseBox", spec := "fnExactRaiseBox", apart := false }
def FnExactRaiseBoxSaid : Prop := fnExactRaiseBoxRow.holds Try.pinned (OpenSpec.ofChange fnExactRaiseBoxSpec)

/-- ITS FALSE NEIGHBOUR: 'it returns false'. Refute it at one input. -/
def fnExactRaiseBoxWrong : ChangeSpec := { name := "fnExactRaiseBox", fn := fun _ => fun
  | [d1, d2] => { results := [.lit (.bool false)], args := [d1, d2] }
  | _ => none }
def FnExactRaiseBoxWrongFalsely : Prop := fnExactRaiseBoxRow.holds Try.pinned (OpenSpec.ofChange fnExactRaiseBoxWrong)

/-- 'laws.FnRaiseBox': WHATEVER THE INPUT: true; the input reads as it did. -/
def fnRaiseBoxSpec : ChangeSpec := { name := "fnRaiseBox", fn := fun _ => fun
  | [d] => { results := [.lit (.bool true)], args := [d] }
  | _ => none }
def fnRaiseBoxRow : OpenClaim := { program := "ytofcbhphjghkaaa", sum := "3599ba5672359713fdfd62646109d4e19598f811107d289d51a4a57cc9a0351a", func := "loop.example/typesetting/laws.FnRaiseBox", spec := "fnRaiseBox", apart := false }
def FnRaiseBoxSaid : Prop := fnRaiseBoxRow.holds Try.pinned (OpenSpec.ofChange fnRaiseBoxSpec)

/-- ITS FALSE NEIGHBOUR: 'it returns false'. Refute it at one input. -/
def fnRaiseBoxWrong : ChangeSpec := { name := "fnRaiseBox", fn := fun _ => fun
  | [d] => { results := [.lit (.bool false)], args := [d] }
  | _ => none }
def FnRaiseBoxWrongFalsely : Prop := fnRaiseBoxRow.holds Try.pinned (OpenSpec.ofChange fnRaiseBoxWrong)

/-- 'laws.FnRaiseZero': WHATEVER THE INPUT: true; the input reads as it did. -/
def fnRaiseZeroSpec : ChangeSpec := { name := "fnRaiseZero", fn := fun _ => fun
  | [d] => { results := [.lit (.bool true)], args := [d] }
  | _ => none }
def fnRaiseZeroRow : OpenClaim := { program := "ytofcbhphjghkaaa", sum := "3599ba5672359713fdfd62646109d4e19598f811107d289d51a4a57cc9a0351a", func := "loop.example/typesetting/laws.FnRaiseZero", spec := "fnRaiseZero", apart := false }
def FnRaiseZeroSaid : Prop := fnRaiseZeroRow.holds Try.pinned (OpenSpec.ofChange fnRaiseZeroSpec)

/-- ITS FALSE NEIGHBOUR: 'it returns false'. Refute it at one input. -/
def fnRaiseZeroWrong : ChangeSpec := { name := "fnRaiseZero", fn := fun _ => fun
  | [d] => { results := [.lit (.bool false)], args := [d] }
  | _ => none }
def FnRaiseZeroWrongFalsely : Prop := fnRaiseZeroRow.holds Try.pinned (OpenSpec.ofChange fnRaiseZeroWrong)

/-- 'laws.FnExactStackBox': WHATEVER THE INPUT: true; the input reads as it did. -/
def fnExactStackBoxSpec : ChangeSpec := { name := "fnExactStackBox", fn := fun _ => fun
  | [d1, d2] => { results := [.lit (.bool true)], args := [d1, d2] }
  | _ => none }
def fnExactStackBoxRow : OpenClaim := { program := "ytofcbhphjghkaaa", sum := "3599ba5672359713fdfd62646109d4e19598f811107d289d51a4a57cc9a0351a", func := "loop.example/typesetting/laws.FnExactStackBox", spec := "fnExactStackBox", unfollowed := true, recurses := true, apart := false }
def FnExactStackBoxSaid : Prop := fnExactStackBoxRow.holds Try.pinned (OpenSpec.ofChange fnExactStackBoxSpec)

/-- ITS FALSE NEIGHBOUR: 'it returns false'. Refute it at one input. -/
def fnExactStackBoxWrong : ChangeSpec := { name := "fnExactStackBox", fn := fun _ => fun
  | [d1, d2] => { results := [.lit (.bool false)], args := [d1, d2] }
  | _ => none }
def FnExactStackBoxWrongFalsely : Prop := fnExactStackBoxRow.holds Try.pinned (OpenSpec.ofChange fnExactStackBoxWrong)

/-- 'laws.FnStackBox': WHATEVER THE INPUT: true; the input reads as it did. -/
def fnStackBoxSpec : ChangeSpec := { name := "fnStackBox", fn := fun _ => fun
  | [d] => { results := [.lit (.bool true)], args := [d] }
  | _ => none }
def fnStackBoxRow : OpenClaim := { program := "ytofcbhphjghkaaa", sum := "3599ba5672359713fdfd62646109d4e19598f811107d289d51a4a57cc9a0351a", func := "loop.example/typesetting/laws.FnStackBox", spec := "fnStackBox", unfollowed := true, recurses := true, apart := false }
def FnStackBoxSaid : Prop := fnStackBoxRow.holds Try.pinned (OpenSpec.ofChange fnStackBoxSpec)

/-- ITS FALSE NEIGHBOUR: 'it returns false'. Refute it at one input. -/
def fnStackBoxWrong : ChangeSpec := { name := "fnStackBox", fn := fun _ => fun
  | [d] => { results := [.lit (.bool false)], args := [d] }
  | _ => none }
def FnStackBoxWrongFalsely : Prop := fnStackBoxRow.holds Try.pinned (OpenSpec.ofChange fnStackBoxWrong)

/-- 'laws.FnStackOne': WHATEVER THE INPUT: true; the input reads as it did. -/
def fnStackOneSpec : ChangeSpec := { name := "fnStackOne", fn := fun _ => fun
  | [d] => { results := [.lit (.bool true)], args := [d] }
  | _ => none }
def fnStackOneRow : OpenClaim := { program := "ytofcbhphjghkaaa", sum := "3599ba5672359713fdfd62646109d4e19598f811107d289d51a4a57cc9a0351a", func := "loop.example/typesetting/laws.FnStackOne", spec := "fnStackOne", unfollowed := true, recurses := true, apart := false }
def FnStackOneSaid : Prop := fnStackOneRow.holds Try.pinned (OpenSpec.ofChange fnStackOneSpec)

/-- ITS FALSE NEIGHBOUR: 'it returns false'. Refute it at one input. -/
def fnStackOneWrong : ChangeSpec := { name := "fnStackOne", fn := fun _ => fun
  | [d] => { results := [.lit (.bool false)], args := [d] }
  | _ => none }
def FnStackOneWrongFalsely : Prop := fnStackOneRow.holds Try.pinned (OpenSpec.ofChange fnStackOneWrong)

/-- 'laws.FnRowNested': WHATEVER THE INPUT: true; the input reads as it did. -/
def fnRowNestedSpec : ChangeSpec := { name := "fnRowNested", fn := fun _ => fun
  | [d1, d2] => { results := [.lit (.bool true)], args := [d1, d2] }
  | _ => none }
def fnRowNestedRow : OpenClaim := { program := "ytofcbhphjghkaaa", sum := "3599ba5672359713fdfd62646109d4e19598f811107d289d51a4a57cc9a0351a", func := "loop.example/typesetting/laws.FnRowNested", spec := "fnRowNested", unfollowed := true, recurses := true, apart := false }
def FnRowNestedSaid : Prop := fnRowNestedRow.holds Try.pinned (OpenSpec.ofChange fnRowNestedSpec)

/-- ITS FALSE NEIGHBOUR: 'it returns false'. Refute it at one input. -/
def fnRowNestedWrong : ChangeSpec := { name := "fnRowNested", fn := fun _ => fun
  | [d1, d2] => { results := [.lit (.bool false)], args := [d1, d2] }
  | _ => none }
def FnRowNestedWrongFalsely : Prop := fnRowNestedRow.holds Try.pinned (OpenSpec.ofChange fnRowNestedWrong)

/-- 'laws.FnPageHeight': WHATEVER THE INPUT: true; the input reads as it did. -/
def fnPageHeightSpec : ChangeSpec := { name := "fnPageHeight", fn := fun _ => fun
  | [d] => { results := [.lit (.bool true)], args := [d] }
  | _ => none }
def fnPageHeightRow : OpenClaim := { program := "ytofcbhphjghkaaa", sum := "3599ba5672359713fdfd62646109d4e19598f811107d289d51a4a57cc9a0351a", func := "loop.example/typesetting/laws.FnPageHeight", spec := "fnPageHeight", apart := false }
def FnPageHeightSaid : Prop := fnPageHeightRow.holds Try.pinned (OpenSpec.ofChange fnPageHeightSpec)

/-- ITS FALSE NEIGHBOUR: 'it returns false'. Refute it at one input. -/
def fnPageHeightWrong : ChangeSpec := { name := "fnPageHeight", fn := fun _ => fun
  | [d] => { results := [.lit (.bool false)], args := [d] }
  | _ => none }
def FnPageHeightWrongFalsely : Prop := fnPageHeightRow.holds Try.pinned (OpenSpec.ofChange fnPageHeightWrong)

/-- 'laws.FnExactCheckPages': WHATEVER THE INPUT: true; the input reads as it did. -/
def fnExactCheckPagesSpec : ChangeSpec := { name := "fnExactCheckPages", fn := fun _ => fun
  | [d1, d2, d3] => { results := [.lit (.bool true)], args := [d1, d2, d3] }
  | _ => none }
def fnExactCheckPagesRow : OpenClaim := { program := "ytofcbhphjghkaaa", sum := "3599ba5672359713fdfd62646109d4e19598f811107d289d51a4a57cc9a0351a", func := "loop.example/typesetting/laws.FnExactCheckPages", spec := "fnExactCheckPages", unfollowed := true, recurses := true, apart := false }
def FnExactCheckPagesSaid : Prop := fnExactCheckPagesRow.holds Try.pinned (OpenSpec.ofChange fnExactCheckPagesSpec)

/-- ITS FALSE NEIGHBOUR: 'it returns false'. Refute it at one input. -/
def fnExactCheckPagesWrong : ChangeSpec := { name := "fnExactCheckPages", fn := fun _ => fun
  | [d1, d2, d3] => { results := [.lit (.bool false)], args := [d1, d2, d3] }
  | _ => none }
def FnExactCheckPagesWrongFalsely : Prop := fnExactCheckPagesRow.holds Try.pinned (OpenSpec.ofChange fnExactCheckPagesWrong)

/-- 'laws.FnExactFillPages': WHATEVER THE INPUT: true; the input reads as it did. -/
def fnExactFillPagesSpec : ChangeSpec := { name := "fnExactFillPages", fn := fun _ => fun
  | [d1, d2] => { results := [.lit (.bool true)], args := [d1, d2] }
  | _ => none }
def fnExactFillPagesRow : OpenClaim := { program := "ytofcbhphjghkaaa", sum := "3599ba5672359713fdfd62646109d4e19598f811107d289d51a4a57cc9a0351a", func := "loop.example/typesetting/laws.FnExactFillPages", spec := "fnExactFillPages", unfollowed := true, recurses := true, apart := false }
def FnExactFillPagesSaid : Prop := fnExactFillPagesRow.holds Try.pinned (OpenSpec.ofChange fnExactFillPagesSpec)

/-- ITS FALSE NEIGHBOUR: 'it returns false'. Refute it at one input. -/
def fnExactFillPagesWrong : ChangeSpec := { name := "fnExactFillPages", fn := fun _ => fun
  | [d1, d2] => { results := [.lit (.bool false)], args := [d1, d2] }
  | _ => none }
def FnExactFillPagesWrongFalsely : Prop := fnExactFillPagesRow.holds Try.pinned (OpenSpec.ofChange fnExactFillPagesWrong)

/- THE SECOND FORM. 'bulk': how many values and letters a reading holds, each counted each time it is reached (what is shared counts as often as it is met; a slice's spare places count too). A statement '..UptoSaid' is the law's where the arguments, and the package variables that the reading takes, are together of bulk at most 1048576: NARROWER than '..Said'. Prove '..Said' where nothing that the law and all that it calls make is longer than what came in: it says more and counts as full. Else prove '..UptoSaid'. A law counts once. -/
mutual
def uptoBulk {H : Type} : DataW H → Nat
  | .lit (.string bytes) => bytes.length + 1
  | .lit _ => 1
  | .nil => 1
  | .ptr d => uptoBulk d + 1
  | .slice elems spare => uptoBulkAll elems + uptoBulkAll spare + 1
  | .agg parts => uptoBulkAll parts + 1
  | .iface _ d => uptoBulk d + 1
  | .map entries => uptoBulkEntries entries + 1
  | .held _ => 1
def uptoBulkAll {H : Type} : List (DataW H) → Nat
  | [] => 0
  | d :: r => uptoBulk d + uptoBulkAll r
def uptoBulkEntries {H : Type} : List (Lit × DataW H) → Nat
  | [] => 0
  | x :: r => uptoBulkEntry x + uptoBulkEntries r
def uptoBulkEntry {H : Type} : Lit × DataW H → Nat
  | (.string bytes, d) => bytes.length + uptoBulk d + 1
  | (_, d) => uptoBulk d + 1
 end
def uptoSmall : (H : Type) → List (DataW H) → Bool := fun _ ds => decide (uptoBulkAll ds ≤ 1048576)
def OpenSpec.upto (s : _root_.Go.ChangeSpec) : _root_.Go.OpenSpec := { _root_.Go.OpenSpec.ofChange s with cond := some uptoSmall }

/-- 'laws.FnExactRowBox', WHERE WHAT IT READS IS OF BULK AT MOST 1048576: true; the input reads as it did. -/
def fnExactRowBoxUptoRow : OpenClaim := { program := "ytofcbhphjghkaaa", sum := "3599ba5672359713fdfd62646109d4e19598f811107d289d51a4a57cc9a0351a", func := "loop.example/typesetting/laws.FnExactRowBox", spec := "fnExactRowBox", unfollowed := true, recurses := true, apart := false, narrowed := true }
def FnExactRowBoxUptoSaid : Prop := fnExactRowBoxUptoRow.holds Try.pinned (OpenSpec.upto fnExactRowBoxSpec)

/-- 'laws.FnRowBox', WHERE WHAT IT READS IS OF BULK AT MOST 1048576: true; the input reads as it did. -/
def fnRowBoxUptoRow : OpenClaim := { program := "ytofcbhphjghkaaa", sum := "3599ba5672359713fdfd62646109d4e19598f811107d289d51a4a57cc9a0351a", func := "loop.example/typesetting/laws.FnRowBox", spec := "fnRowBox", unfollowed := true, recurses := true, apart := false, narrowed := true }
def FnRowBoxUptoSaid : Prop := fnRowBoxUptoRow.holds Try.pinned (OpenSpec.upto fnRowBoxSpec)

/-- 'laws.FnExactRaiseBox', WHERE WHAT IT READS IS OF BULK AT MOST 1048576: true; the input reads as it did. -/
def fnExactRaiseBoxUptoRow : OpenClaim := { program := "ytofcbhphjghkaaa", sum := "3599ba5672359713fdfd62646109d4e19598f811107d289d51a4a57cc9a0351a", func := "loop.example/typesetting/laws.FnExactRaiseBox", spec := "fnExactRaiseBox", apart := false, narrowed := true }
def FnExactRaiseBoxUptoSaid : Prop := fnExactRaiseBoxUptoRow.holds Try.pinned (OpenSpec.upto fnExactRaiseBoxSpec)

/-- 'laws.FnRaiseBox', WHERE WHAT IT READS IS OF BULK AT MOST 1048576: true; the input reads as it did. -/
def fnRaiseBoxUptoRow : OpenClaim := { program := "ytofcbhphjghkaaa", sum := "3599ba5672359713fdfd62646109d4e19598f811107d289d51a4a57cc9a0351a", func := "loop.example/typesetting/laws.FnRaiseBox", spec := "fnRaiseBox", apart := false, narrowed := true }
def FnRaiseBoxUptoSaid : Prop := fnRaiseBoxUptoRow.holds Try.pinned (OpenSpec.upto fnRaiseBoxSpec)

/-- 'laws.FnRaiseZero', WHERE WHAT IT READS IS OF BULK AT MOST 1048576: true; the input reads as it did. -/
def fnRaiseZeroUptoRow : OpenClaim := { program := "ytofcbhphjghkaaa", sum := "3599ba5672359713fdfd62646109d4e19598f811107d289d51a4a57cc9a0351a", func := "loop.example/typesetting/laws.FnRaiseZero", spec := "fnRaiseZero", apart := false, narrowed := true }
def FnRaiseZeroUptoSaid : Prop := fnRaiseZeroUptoRow.holds Try.pinned (OpenSpec.upto fnRaiseZeroSpec)

/-- 'laws.FnExactStackBox', WHERE WHAT IT READS IS OF BULK AT MOST 1048576: true; the input reads as it did. -/
def fnExactStackBoxUptoRow : OpenClaim := { program := "ytofcbhphjghkaaa", sum := "3599ba5672359713fdfd62646109d4e19598f811107d289d51a4a57cc9a0351a", func := "loop.example/typesetting/laws.FnExactStackBox", spec := "fnExactStackBox", unfollowed := true, recurses := true, apart := false, narrowed := true }
def FnExactStackBoxUptoSaid : Prop := fnExactStackBoxUptoRow.holds Try.pinned (OpenSpec.upto fnExactStackBoxSpec)

/-- 'laws.FnStackBox', WHERE WHAT IT READS IS OF BULK AT MOST 1048576: true; the input reads as it did. -/
def fnStackBoxUptoRow : OpenClaim := { program := "ytofcbhphjghkaaa", sum := "3599ba5672359713fdfd62646109d4e19598f811107d289d51a4a57cc9a0351a", func := "loop.example/typesetting/laws.FnStackBox", spec := "fnStackBox", unfollowed := true, recurses := true, apart := false, narrowed := true }
def FnStackBoxUptoSaid : Prop := fnStackBoxUptoRow.holds Try.pinned (OpenSpec.upto fnStackBoxSpec)

/-- 'laws.FnStackOne', WHERE WHAT IT READS IS OF BULK AT MOST 1048576: true; the input reads as it did. -/
def fnStackOneUptoRow : OpenClaim := { program := "ytofcbhphjghkaaa", sum := "3599ba5672359713fdfd62646109d4e19598f811107d289d51a4a57cc9a0351a", func := "loop.example/typesetting/laws.FnStackOne", spec := "fnStackOne", unfollowed := true, recurses := true, apart := false, narrowed := true }
def FnStackOneUptoSaid : Prop := fnStackOneUptoRow.holds Try.pinned (OpenSpec.upto fnStackOneSpec)

/-- 'laws.FnRowNested', WHERE WHAT IT READS IS OF BULK AT MOST 1048576: true; the input reads as it did. -/
def fnRowNestedUptoRow : OpenClaim := { program := "ytofcbhphjghkaaa", sum := "3599ba5672359713fdfd62646109d4e19598f811107d289d51a4a57cc9a0351a", func := "loop.example/typesetting/laws.FnRowNested", spec := "fnRowNested", unfollowed := true, recurses := true, apart := false, narrowed := true }
def FnRowNestedUptoSaid : Prop := fnRowNestedUptoRow.holds Try.pinned (OpenSpec.upto fnRowNestedSpec)

/-- 'laws.FnPageHeight', WHERE WHAT IT READS IS OF BULK AT MOST 1048576: true; the input reads as it did. -/
def fnPageHeightUptoRow : OpenClaim := { program := "ytofcbhphjghkaaa", sum := "3599ba5672359713fdfd62646109d4e19598f811107d289d51a4a57cc9a0351a", func := "loop.example/typesetting/laws.FnPageHeight", spec := "fnPageHeight", apart := false, narrowed := true }
def FnPageHeightUptoSaid : Prop := fnPageHeightUptoRow.holds Try.pinned (OpenSpec.upto fnPageHeightSpec)

/-- 'laws.FnExactCheckPages', WHERE WHAT IT READS IS OF BULK AT MOST 1048576: true; the input reads as it did. -/
def fnExactCheckPagesUptoRow : OpenClaim := { program := "ytofcbhphjghkaaa", sum := "3599ba5672359713fdfd62646109d4e19598f811107d289d51a4a57cc9a0351a", func := "loop.example/typesetting/laws.FnExactCheckPages", spec := "fnExactCheckPages", unfollowed := true, recurses := true, apart := false, narrowed := true }
def FnExactCheckPagesUptoSaid : Prop := fnExactCheckPagesUptoRow.holds Try.pinned (OpenSpec.upto fnExactCheckPagesSpec)

/-- 'laws.FnExactFillPages', WHERE WHAT IT READS IS OF BULK AT MOST 1048576: true; the input reads as it did. -/
def fnExactFillPagesUptoRow : OpenClaim := { program := "ytofcbhphjghkaaa", sum := "3599ba5672359713fdfd62646109d4e19598f811107d289d51a4a57cc9a0351a", func := "loop.example/typesetting/laws.FnExactFillPages", spec := "fnExactFillPages", unfollowed := true, recurses := true, apart := false, narrowed := true }
def FnExactFillPagesUptoSaid : Prop := fnExactFillPagesUptoRow.holds Try.pinned (OpenSpec.upto fnExactFillPagesSpec)

end Rows
end Go.Proofs.Ytofcbhphjghkaaa
