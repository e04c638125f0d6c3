/-
  No cell of these rows narrows 'for every input' (looked for: loops, veiled, ifaces, maps, wideKeys, modest, calm, conditions, laid).
  DERIVED. THE GIVEN ROWS OF THIS SEAT. 12 by the template 'for every input the law returns true; each argument reads behind the call as it read before'; 0 by the template 'total and deterministic' (their statements: YtfcoheakecfolaaTotals.lean).
  GIVEN WITH THE SEED: the statements are not yours to turn. If you find one false, say at which input.
  Laid BY PROGRAM, IN A SANDBOX (cutbox-rows.mjs): the forced cells as the released guide's own fill.sh prints them over the translation 4e1795d42e0697a3… (all of the seat's roots in one cut). By AI agents, Wed Nov 11 2026. No macro, syntax, notation, axiom, sorry.
-/
import Derived.Test.YtfcoheakecfolaaChecked
import GoSem.Claim
import GoSem.ClaimJoined
import GoSem.ClaimMapViews
import Derived.JoinedTies
import Derived.KernelRfl
namespace Go.Proofs.Ytfcoheakecfolaa
/- THE CELL 'sum', in the pinned program and in every row, IS THE sha256 OF THE DUMP (.gsa) THAT YtfcoheakecfolaaProg.lean LOADS. Nothing in Lean hashes anything: it is a label: what it is worth is what the hold of that sum in a sandbox is worth. -/
noncomputable def Try.pinned : Pinned := { name := "ytfcoheakecfolaa", sum := "4e1795d42e0697a3f34fd3d0e2e2d2c1158753307cc9e2a3f839e489a4eb9af5", checked := Try.checked }
namespace Rows
def none {H : Type} : Left H := { results := [], args := [] }

/-- 'laws.FnDemerits': WHATEVER THE INPUT: true; the input reads as it did. -/
def fnDemeritsSpec : ChangeSpec := { name := "fnDemerits", fn := fun _ => fun
  | [d] => { results := [.lit (.bool true)], args := [d] }
  | _ => none }
def fnDemeritsRow : OpenClaim := { program := "ytfcoheakecfolaa", sum := "4e1795d42e0697a3f34fd3d0e2e2d2c1158753307cc9e2a3f839e489a4eb9af5", func := "loop.example/typesetting/laws.FnDemerits", spec := "fnDemerits", apart := false }
def FnDemeritsSaid : Prop := fnDemeritsRow.holds Try.pinned (OpenSpec.ofChange fnDemeritsSpec)

/-- ITS FALSE NEIGHBOUR: 'it returns false'. Refute it at one input. -/
def fnDemeritsWrong : ChangeSpec := { name := "fnDemerits", fn := fun _ => fun
  | [d] => { results := [.lit (.bool false)], args := [d] }
  | _ => none }
def FnDemeritsWrongFalsely : Prop := fnDemeritsRow.holds Try.pinned (OpenSpec.ofChange fnDemeritsWrong)

/-- 'laws.FnDemeritsPlain': WHATEVER THE INPUT: true; the input reads as it did. -/
def fnDemeritsPlainSpec : ChangeSpec := { name := "fnDemeritsPlain", fn := fun _ => fun
  | [d] => { results := [.lit (.bool true)], args := [d] }
  | _ => none }
def fnDemeritsPlainRow : OpenClaim := { program := "ytfcoheakecfolaa", sum := "4e1795d42e0697a3f34fd3d0e2e2d2c1158753307cc9e2a3f839e489a4eb9af5", func := "loop.example/typesetting/laws.FnDemeritsPlain", spec := "fnDemeritsPlain", apart := false }
def FnDemeritsPlainSaid : Prop := fnDemeritsPlainRow.holds Try.pinned (OpenSpec.ofChange fnDemeritsPlainSpec)

/-- ITS FALSE NEIGHBOUR: 'it returns false'. Refute it at one input. -/
def fnDemeritsPlainWrong : ChangeSpec := { name := "fnDemeritsPlain", fn := fun _ => fun
  | [d] => { results := [.lit (.bool false)], args := [d] }
  | _ => none }
def FnDemeritsPlainWrongFalsely : Prop := fnDemeritsPlainRow.holds Try.pinned (OpenSpec.ofChange fnDemeritsPlainWrong)

/-- 'laws.FnExactDemerits': WHATEVER THE INPUT: true; the input reads as it did. -/
def fnExactDemeritsSpec : ChangeSpec := { name := "fnExactDemerits", fn := fun _ => fun
  | [d1, d2, d3] => { results := [.lit (.bool true)], args := [d1, d2, d3] }
  | _ => none }
def fnExactDemeritsRow : OpenClaim := { program := "ytfcoheakecfolaa", sum := "4e1795d42e0697a3f34fd3d0e2e2d2c1158753307cc9e2a3f839e489a4eb9af5", func := "loop.example/typesetting/laws.FnExactDemerits", spec := "fnExactDemerits", apart := false }
def FnExactDemeritsSaid : Prop := fnExactDemeritsRow.holds Try.pinned (OpenSpec.ofChange fnExactDemeritsSpec)

/-- ITS FALSE NEIGHBOUR: 'it returns false'. Refute it at one input. -/
def fnExactDemeritsWrong : ChangeSpec := { name := "fnExactDemerits", fn := fun _ => fun
  | [d1, d2, d3] => { results := [.lit (.bool false)], args := [d1, d2, d3] }
  | _ => none }
def FnExactDemeritsWrongFalsely : Prop := fnExactDemeritsRow.holds Try.pinned (OpenSpec.ofChange fnExactDemeritsWrong)

/-- 'laws.FnHangShape': WHATEVER THE INPUT: true; the input reads as it did. -/
def fnHangShapeSpec : ChangeSpec := { name := "fnHangShape", fn := fun _ => fun
  | [d] => { results := [.lit (.bool true)], args := [d] }
  | _ => none }
def fnHangShapeRow : OpenClaim := { program := "ytfcoheakecfolaa", sum := "4e1795d42e0697a3f34fd3d0e2e2d2c1158753307cc9e2a3f839e489a4eb9af5", func := "loop.example/typesetting/laws.FnHangShape", spec := "fnHangShape", unfollowed := true, recurses := true, apart := false }
def FnHangShapeSaid : Prop := fnHangShapeRow.holds Try.pinned (OpenSpec.ofChange fnHangShapeSpec)

/-- ITS FALSE NEIGHBOUR: 'it returns false'. Refute it at one input. -/
def fnHangShapeWrong : ChangeSpec := { name := "fnHangShape", fn := fun _ => fun
  | [d] => { results := [.lit (.bool false)], args := [d] }
  | _ => none }
def FnHangShapeWrongFalsely : Prop := fnHangShapeRow.holds Try.pinned (OpenSpec.ofChange fnHangShapeWrong)

/-- 'laws.FnHangPlain': WHATEVER THE INPUT: true; the input reads as it did. -/
def fnHangPlainSpec : ChangeSpec := { name := "fnHangPlain", fn := fun _ => fun
  | [d] => { results := [.lit (.bool true)], args := [d] }
  | _ => none }
def fnHangPlainRow : OpenClaim := { program := "ytfcoheakecfolaa", sum := "4e1795d42e0697a3f34fd3d0e2e2d2c1158753307cc9e2a3f839e489a4eb9af5", func := "loop.example/typesetting/laws.FnHangPlain", spec := "fnHangPlain", apart := false }
def FnHangPlainSaid : Prop := fnHangPlainRow.holds Try.pinned (OpenSpec.ofChange fnHangPlainSpec)

/-- ITS FALSE NEIGHBOUR: 'it returns false'. Refute it at one input. -/
def fnHangPlainWrong : ChangeSpec := { name := "fnHangPlain", fn := fun _ => fun
  | [d] => { results := [.lit (.bool false)], args := [d] }
  | _ => none }
def FnHangPlainWrongFalsely : Prop := fnHangPlainRow.holds Try.pinned (OpenSpec.ofChange fnHangPlainWrong)

/-- 'laws.FnExactHangShape': WHATEVER THE INPUT: true; the input reads as it did. -/
def fnExactHangShapeSpec : ChangeSpec := { name := "fnExactHangShape", fn := fun _ => fun
  | [d1, d2, d3, d4] => { results := [.lit (.bool true)], args := [d1, d2, d3, d4] }
  | _ => none }
def fnExactHangShapeRow : OpenClaim := { program := "ytfcoheakecfolaa", sum := "4e1795d42e0697a3f34fd3d0e2e2d2c1158753307cc9e2a3f839e489a4eb9af5", func := "loop.example/typesetting/laws.FnExactHangShape", spec := "fnExactHangShape", apart := false }
def FnExactHangShapeSaid : Prop := fnExactHangShapeRow.holds Try.pinned (OpenSpec.ofChange fnExactHangShapeSpec)

/-- ITS FALSE NEIGHBOUR: 'it returns false'. Refute it at one input. -/
def fnExactHangShapeWrong : ChangeSpec := { name := "fnExactHangShape", fn := fun _ => fun
  | [d1, d2, d3, d4] => { results := [.lit (.bool false)], args := [d1, d2, d3, d4] }
  | _ => none }
def FnExactHangShapeWrongFalsely : Prop := fnExactHangShapeRow.holds Try.pinned (OpenSpec.ofChange fnExactHangShapeWrong)

/-- 'laws.FnWidthOfLine': WHATEVER THE INPUT: true; the input reads as it did. -/
def fnWidthOfLineSpec : ChangeSpec := { name := "fnWidthOfLine", fn := fun _ => fun
  | [d] => { results := [.lit (.bool true)], args := [d] }
  | _ => none }
def fnWidthOfLineRow : OpenClaim := { program := "ytfcoheakecfolaa", sum := "4e1795d42e0697a3f34fd3d0e2e2d2c1158753307cc9e2a3f839e489a4eb9af5", func := "loop.example/typesetting/laws.FnWidthOfLine", spec := "fnWidthOfLine", unfollowed := true, recurses := true, apart := false }
def FnWidthOfLineSaid : Prop := fnWidthOfLineRow.holds Try.pinned (OpenSpec.ofChange fnWidthOfLineSpec)

/-- ITS FALSE NEIGHBOUR: 'it returns false'. Refute it at one input. -/
def fnWidthOfLineWrong : ChangeSpec := { name := "fnWidthOfLine", fn := fun _ => fun
  | [d] => { results := [.lit (.bool false)], args := [d] }
  | _ => none }
def FnWidthOfLineWrongFalsely : Prop := fnWidthOfLineRow.holds Try.pinned (OpenSpec.ofChange fnWidthOfLineWrong)

/-- 'laws.FnExactWidthOfLine': WHATEVER THE INPUT: true; the input reads as it did. -/
def fnExactWidthOfLineSpec : ChangeSpec := { name := "fnExactWidthOfLine", fn := fun _ => fun
  | [d1, d2] => { results := [.lit (.bool true)], args := [d1, d2] }
  | _ => none }
def fnExactWidthOfLineRow : OpenClaim := { program := "ytfcoheakecfolaa", sum := "4e1795d42e0697a3f34fd3d0e2e2d2c1158753307cc9e2a3f839e489a4eb9af5", func := "loop.example/typesetting/laws.FnExactWidthOfLine", spec := "fnExactWidthOfLine", unfollowed := true, recurses := true, apart := false }
def FnExactWidthOfLineSaid : Prop := fnExactWidthOfLineRow.holds Try.pinned (OpenSpec.ofChange fnExactWidthOfLineSpec)

/-- ITS FALSE NEIGHBOUR: 'it returns false'. Refute it at one input. -/
def fnExactWidthOfLineWrong : ChangeSpec := { name := "fnExactWidthOfLine", fn := fun _ => fun
  | [d1, d2] => { results := [.lit (.bool false)], args := [d1, d2] }
  | _ => none }
def FnExactWidthOfLineWrongFalsely : Prop := fnExactWidthOfLineRow.holds Try.pinned (OpenSpec.ofChange fnExactWidthOfLineWrong)

/-- 'laws.FnParsePattern': WHATEVER THE INPUT: true; the input reads as it did. -/
def fnParsePatternSpec : ChangeSpec := { name := "fnParsePattern", fn := fun _ => fun
  | [d] => { results := [.lit (.bool true)], args := [d] }
  | _ => none }
def fnParsePatternRow : OpenClaim := { program := "ytfcoheakecfolaa", sum := "4e1795d42e0697a3f34fd3d0e2e2d2c1158753307cc9e2a3f839e489a4eb9af5", func := "loop.example/typesetting/laws.FnParsePattern", spec := "fnParsePattern", recurses := true, apart := false }
def FnParsePatternSaid : Prop := fnParsePatternRow.holds Try.pinned (OpenSpec.ofChange fnParsePatternSpec)

/-- ITS FALSE NEIGHBOUR: 'it returns false'. Refute it at one input. -/
def fnParsePatternWrong : ChangeSpec := { name := "fnParsePattern", fn := fun _ => fun
  | [d] => { results := [.lit (.bool false)], args := [d] }
  | _ => none }
def FnParsePatternWrongFalsely : Prop := fnParsePatternRow.holds Try.pinned (OpenSpec.ofChange fnParsePatternWrong)

/-- 'laws.FnExactParsePattern': WHATEVER THE INPUT: true; the input reads as it did. -/
def fnExactParsePatternSpec : ChangeSpec := { name := "fnExactParsePattern", fn := fun _ => fun
  | [d] => { results := [.lit (.bool true)], args := [d] }
  | _ => none }
def fnExactParsePatternRow : OpenClaim := { program := "ytfcoheakecfolaa", sum := "4e1795d42e0697a3f34fd3d0e2e2d2c1158753307cc9e2a3f839e489a4eb9af5", func := "loop.example/typesetting/laws.FnExactParsePattern", spec := "fnExactParsePattern", apart := false }
def FnExactParsePatternSaid : Prop := fnExactParsePatternRow.holds Try.pinned (OpenSpec.ofChange fnExactParsePatternSpec)

/-- ITS FALSE NEIGHBOUR: 'it returns false'. Refute it at one input. -/
def fnExactParsePatternWrong : ChangeSpec := { name := "fnExactParsePattern", fn := fun _ => fun
  | [d] => { results := [.lit (.bool false)], args := [d] }
  | _ => none }
def FnExactParsePatternWrongFalsely : Prop := fnExactParsePatternRow.holds Try.pinned (OpenSpec.ofChange fnExactParsePatternWrong)

/-- 'laws.FnSplitWord': WHATEVER THE INPUT: true; the input reads as it did. -/
def fnSplitWordSpec : ChangeSpec := { name := "fnSplitWord", fn := fun _ => fun
  | [d] => { results := [.lit (.bool true)], args := [d] }
  | _ => none }
def fnSplitWordRow : OpenClaim := { program := "ytfcoheakecfolaa", sum := "4e1795d42e0697a3f34fd3d0e2e2d2c1158753307cc9e2a3f839e489a4eb9af5", func := "loop.example/typesetting/laws.FnSplitWord", spec := "fnSplitWord", apart := false }
def FnSplitWordSaid : Prop := fnSplitWordRow.holds Try.pinned (OpenSpec.ofChange fnSplitWordSpec)

/-- ITS FALSE NEIGHBOUR: 'it returns false'. Refute it at one input. -/
def fnSplitWordWrong : ChangeSpec := { name := "fnSplitWord", fn := fun _ => fun
  | [d] => { results := [.lit (.bool false)], args := [d] }
  | _ => none }
def FnSplitWordWrongFalsely : Prop := fnSplitWordRow.holds Try.pinned (OpenSpec.ofChange fnSplitWordWrong)

/-- 'laws.FnExactSplitWord': WHATEVER THE INPUT: true; the input reads as it did. -/
def fnExactSplitWordSpec : ChangeSpec := { name := "fnExactSplitWord", fn := fun _ => fun
  | [d1, d2] => { results := [.lit (.bool true)], args := [d1, d2] }
  | _ => none }
def fnExactSplitWordRow : OpenClaim := { program := "ytfcoheakecfolaa", sum := "4e1795d42e0697a3f34fd3d0e2e2d2c1158753307cc9e2a3f839e489a4eb9af5", func := "loop.example/typesetting/laws.FnExactSplitWord", spec := "fnExactSplitWord", apart := false }
def FnExactSplitWordSaid : Prop := fnExactSplitWordRow.holds Try.pinned (OpenSpec.ofChange fnExactSplitWordSpec)

/-- ITS FALSE NEIGHBOUR: 'it returns false'. Refute it at one input. -/
def fnExactSplitWordWrong : ChangeSpec := { name := "fnExactSplitWord", fn := fun _ => fun
  | [d1, d2] => { results := [.lit (.bool false)], args := [d1, d2] }
  | _ => none }
def FnExactSplitWordWrongFalsely : Prop := fnExactSplitWordRow.holds Try.pinned (OpenSpec.ofChange fnExactSplitWordWrong)

/- THE SECOND FORM. 'bulk': how many values and letters a reading holds, each counted each time it is reached (what is shared counts as often as it is met; a slice's spare places count too). A statement '..UptoSaid' is the law's where the arguments, and the package variables that the reading takes, are together of bulk at most 1048576: NARROWER than '..Said'. Prove '..Said' where nothing that the law and all that it calls make is longer than what came in: it says more and counts as full. Else prove '..UptoSaid'. A law counts once. -/
mutual
def uptoBulk {H : Type} : DataW H → Nat
  | .lit (.string bytes) => bytes.length + 1
  | .lit _ => 1
  | .nil => 1
  | .ptr d => uptoBulk d + 1
  | .slice elems spare => uptoBulkAll elems + uptoBulkAll spare + 1
  | .agg parts => uptoBulkAll parts + 1
  | .iface _ d => uptoBulk d + 1
  | .map entries => uptoBulkEntries entries + 1
  | .held _ => 1
def uptoBulkAll {H : Type} : List (DataW H) → Nat
  | [] => 0
  | d :: r => uptoBulk d + uptoBulkAll r
def uptoBulkEntries {H : Type} : List (Lit × DataW H) → Nat
  | [] => 0
  | x :: r => uptoBulkEntry x + uptoBulkEntries r
def uptoBulkEntry {H : Type} : Lit × DataW H → Nat
  | (.string bytes, d) => bytes.length + uptoBulk d + 1
  | (_, d) => uptoBulk d + 1
 end
def uptoSmall : (H : Type) → List (DataW H) → Bool := fun _ ds => decide (uptoBulkAll ds ≤ 1048576)
def OpenSpec.upto (s : _root_.Go.ChangeSpec) : _root_.Go.OpenSpec := { _root_.Go.OpenSpec.ofChange s with cond := some uptoSmall }

/-- 'laws.FnDemerits', WHERE WHAT IT READS IS OF BULK AT MOST 1048576: true; the input reads as it did. -/
def fnDemeritsUptoRow : OpenClaim := { program := "ytfcoheakecfolaa", sum := "4e1795d42e0697a3f34fd3d0e2e2d2c1158753307cc9e2a3f839e489a4eb9af5", func := "loop.example/typesetting/laws.FnDemerits", spec := "fnDemerits", apart := false, narrowed := true }
def FnDemeritsUptoSaid : Prop := fnDemeritsUptoRow.holds Try.pinned (OpenSpec.upto fnDemeritsSpec)

/-- 'laws.FnDemeritsPlain', WHERE WHAT IT READS IS OF BULK AT MOST 1048576: true; the input reads as it did. -/
def fnDemeritsPlainUptoRow : OpenClaim := { program := "ytfcoheakecfolaa", sum := "4e1795d42e0697a3f34fd3d0e2e2d2c1158753307cc9e2a3f839e489a4eb9af5", func := "loop.example/typesetting/laws.FnDemeritsPlain", spec := "fnDemeritsPlain", apart := false, narrowed := true }
def FnDemeritsPlainUptoSaid : Prop := fnDemeritsPlainUptoRow.holds Try.pinned (OpenSpec.upto fnDemeritsPlainSpec)

/-- 'laws.FnExactDemerits', WHERE WHAT IT READS IS OF BULK AT MOST 1048576: true; the input reads as it did. -/
def fnExactDemeritsUptoRow : OpenClaim := { program := "ytfcoheakecfolaa", sum := "4e1795d42e0697a3f34fd3d0e2e2d2c1158753307cc9e2a3f839e489a4eb9af5", func := "loop.example/typesetting/laws.FnExactDemerits", spec := "fnExactDemerits", apart := false, narrowed := true }
def FnExactDemeritsUptoSaid : Prop := fnExactDemeritsUptoRow.holds Try.pinned (OpenSpec.upto fnExactDemeritsSpec)

/-- 'laws.FnHangShape', WHERE WHAT IT READS IS OF BULK AT MOST 1048576: true; the input reads as it did. -/
def fnHangShapeUptoRow : OpenClaim := { program := "ytfcoheakecfolaa", sum := "4e1795d42e0697a3f34fd3d0e2e2d2c1158753307cc9e2a3f839e489a4eb9af5", func := "loop.example/typesetting/laws.FnHangShape", spec := "fnHangShape", unfollowed := true, recurses := true, apart := false, narrowed := true }
def FnHangShapeUptoSaid : Prop := fnHangShapeUptoRow.holds Try.pinned (OpenSpec.upto fnHangShapeSpec)

/-- 'laws.FnHangPlain', WHERE WHAT IT READS IS OF BULK AT MOST 1048576: true; the input reads as it did. -/
def fnHangPlainUptoRow : OpenClaim := { program := "ytfcoheakecfolaa", sum := "4e1795d42e0697a3f34fd3d0e2e2d2c1158753307cc9e2a3f839e489a4eb9af5", func := "loop.example/typesetting/laws.FnHangPlain", spec := "fnHangPlain", apart := false, narrowed := true }
def FnHangPlainUptoSaid : Prop := fnHangPlainUptoRow.holds Try.pinned (OpenSpec.upto fnHangPlainSpec)

/-- 'laws.FnExactHangShape', WHERE WHAT IT READS IS OF BULK AT MOST 1048576: true; the input reads as it did. -/
def fnExactHangShapeUptoRow : OpenClaim := { program := "ytfcoheakecfolaa", sum := "4e1795d42e0697a3f34fd3d0e2e2d2c1158753307cc9e2a3f839e489a4eb9af5", func := "loop.example/typesetting/laws.FnExactHangShape", spec := "fnExactHangShape", apart := false, narrowed := true }
def FnExactHangShapeUptoSaid : Prop := fnExactHangShapeUptoRow.holds Try.pinned (OpenSpec.upto fnExactHangShapeSpec)

/-- 'laws.FnWidthOfLine', WHERE WHAT IT READS IS OF BULK AT MOST 1048576: true; the input reads as it did. -/
def fnWidthOfLineUptoRow : OpenClaim := { program := "ytfcoheakecfolaa", sum := "4e1795d42e0697a3f34fd3d0e2e2d2c1158753307cc9e2a3f839e489a4eb9af5", func := "loop.example/typesetting/laws.FnWidthOfLine", spec := "fnWidthOfLine", unfollowed := true, recurses := true, apart := false, narrowed := true }
def FnWidthOfLineUptoSaid : Prop := fnWidthOfLineUptoRow.holds Try.pinned (OpenSpec.upto fnWidthOfLineSpec)

/-- 'laws.FnExactWidthOfLine', WHERE WHAT IT READS IS OF BULK AT MOST 1048576: true; the input reads as it did. -/
def fnExactWidthOfLineUptoRow : OpenClaim := { program := "ytfcoheakecfolaa", sum := "4e1795d42e0697a3f34fd3d0e2e2d2c1158753307cc9e2a3f839e489a4eb9af5", func := "loop.example/typesetting/laws.FnExactWidthOfLine", spec := "fnExactWidthOfLine", unfollowed := true, recurses := true, apart := false, narrowed := true }
def FnExactWidthOfLineUptoSaid : Prop := fnExactWidthOfLineUptoRow.holds Try.pinned (OpenSpec.upto fnExactWidthOfLineSpec)

/-- 'laws.FnParsePattern', WHERE WHAT IT READS IS OF BULK AT MOST 1048576: true; the input reads as it did. -/
def fnParsePatternUptoRow : OpenClaim := { program := "ytfcoheakecfolaa", sum := "4e1795d42e0697a3f34fd3d0e2e2d2c1158753307cc9e2a3f839e489a4eb9af5", func := "loop.example/typesetting/laws.FnParsePattern", spec := "fnParsePattern", recurses := true, apart := false, narrowed := true }
def FnParsePatternUptoSaid : Prop := fnParsePatternUptoRow.holds Try.pinned (OpenSpec.upto fnParsePatternSpec)

/-- 'laws.FnExactParsePattern', WHERE WHAT IT READS IS OF BULK AT MOST 1048576: true; the input reads as it did. -/
def fnExactParsePatternUptoRow : OpenClaim := { program := "ytfcoheakecfolaa", sum := "4e1795d42e0697a3f34fd3d0e2e2d2c1158753307cc9e2a3f839e489a4eb9af5", func := "loop.example/typesetting/laws.FnExactParsePattern", spec := "fnExactParsePattern", apart := false, narrowed := true }
def FnExactParsePatternUptoSaid : Prop := fnExactParsePatternUptoRow.holds Try.pinned (OpenSpec.upto fnExactParsePatternSpec)

/-- 'laws.FnSplitWord', WHERE WHAT IT READS IS OF BULK AT MOST 1048576: true; the input reads as it did. -/
def fnSplitWordUptoRow : OpenClaim := { program := "ytfcoheakecfolaa", sum := "4e1795d42e0697a3f34fd3d0e2e2d2c1158753307cc9e2a3f839e489a4eb9af5", func := "loop.example/typesetting/laws.FnSplitWord", spec := "fnSplitWord", apart := false, narrowed := true }
def FnSplitWordUptoSaid : Prop := fnSplitWordUptoRow.holds Try.pinned (OpenSpec.upto fnSplitWordSpec)

/-- 'laws.FnExactSplitWord', WHERE WHAT IT READS IS OF BULK AT MOST 1048576: true; the input reads as it did. -/
def fnExactSplitWordUptoRow : OpenClaim := { program := "ytfcoheakecfolaa", sum := "4e1795d42e0697a3f34fd3d0e2e2d2c1158753307cc9e2a3f839e489a4eb9af5", func := "loop.example/typesetting/laws.FnExactSplitWord", spec := "fnExactSplitWord", apart := false, narrowed := true }
def FnExactSplitWordUptoSaid : Prop := fnExactSplitWordUptoRow.holds Try.pinned (OpenSpec.upto fnExactSplitWordSpec)

end Rows
end Go.Proofs.Ytfcoheakecfolaa
